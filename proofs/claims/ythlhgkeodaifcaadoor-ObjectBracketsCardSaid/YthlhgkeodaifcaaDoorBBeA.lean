/-
  The program's behind, ahead; what lies in between's boxes.
-/
import Derived.Test.YthlhgkeodaifcaaDoorBAsk
import Derived.Deep.RegionWith
namespace Go.Proofs.YthlhgkeodaifcaaDoor.U
open Go.RowKit
set_option linter.unusedVariables false
set_option linter.unusedSimpArgs false
set_option maxRecDepth 100000

/-- the place of the rune behind one, ahead of one -/
def behPl (L : List (List Int)) (p : Pl) : Pl := if p.2 + 1 = (lnL L p.1).length then (p.1 + 1, 0) else (p.1, p.2 + 1)
def ahePl (L : List (List Int)) (p : Pl) : Pl := if p.2 = 0 then lastP (L.take p.1) else (p.1, p.2 - 1)
set_option maxHeartbeats 1000000 in
theorem abehind_any (F : Nat → Prop) (a : Option Addr) (n c l q : Nat) (ar : Bool) (L : List (List Int)) (p1 p2 : Nat) (w : World) (h : RdL F w a n c L) (hp : p1 < n) (h2 : p2 + 1 ≤ (lnL L p1).length) :
    Calls Tryd.prog 46 #[askL a n c l q ar, .agg #[.int .i64 (p1 : Nat), .int .i64 (p2 : Nat)]] w fun e w' => e = .returned (plV (behPl L (p1, p2))) ∧ Below w.heap.size w w' := by
  have hl := h.len
  have hsm := h.small
  obtain ⟨b, off, ra, rc, rfl, -, hbl, l0, hrd⟩ := okP.line (p := (p1, 0)) h ⟨by simp only; omega, by simp⟩ (Below.refl _ w)
  simp only at l0 hrd
  have hms := hrd.small
  obtain ⟨r, hr⟩ : ∃ r, behPl L (p1, p2) = r := ⟨_, rfl⟩
  rw [hr]
  unfold behPl at hr
  simp only at hr
  obtain ⟨m, hm⟩ : ∃ m, (lnL L p1).length = m := ⟨_, rfl⟩
  rw [hm] at hr l0 hms h2
  obtain ⟨w1, hw1, hsz, g1, g2, g3, hb1⟩ := three3 w (askO (some ⟨b, off, none⟩) n c l q ar) (.cells #[.int .i64 (p1 : Nat), .int .i64 (p2 : Nat)] 24) (.cells #[.int .i64 0, .int .i64 0] 24)
  obtain ⟨x0, x1, x2, x3⟩ := row4 g1
  obtain ⟨y0, y1, yf0, yf1⟩ := row2 g2
  obtain ⟨z0, z1, zf0, zf1⟩ := row2 g3
  have e1 := (hb1.cell (p := ⟨b, off + p1, none⟩) hbl).trans l0
  have n1 : ¬ b = w.heap.size + 1 := by omega
  have n2 : ¬ w.heap.size = w.heap.size + 1 := by omega
  have n3 : ¬ w.heap.size + 1 = w.heap.size + 1 + 1 := by omega
  obtain ⟨j, hj⟩ : ∃ j, p2 + 1 = j := ⟨_, rfl⟩
  rw [hj] at hr h2
  have s0 : (p2 : Int) + 1 = (j : Int) := by omega
  have s1 : (j : Int) ≤ 9223372036854775807 := by omega
  have s2 : ¬ (p1 : Int) < 0 := by omega
  have s3 : decide ((p1 : Int) < 0) = false := by simp
  obtain ⟨i1, hi1⟩ : ∃ i, p1 + 1 = i := ⟨_, rfl⟩
  have s4 : (p1 : Int) + 1 = (i1 : Int) := by omega
  have s5 : (i1 : Int) ≤ 9223372036854775807 := by omega
  have HW1 := Lib.hid hw1
  have HB1 := Lib.hid hb1
  by_cases he : j = m
  · rw [if_pos he, hi1] at hr
    have HR : Hid (r = (i1, 0)) := hr.symm
    have t0 : ((j : Int) == (m : Int)) = true := by simp; omega
    have t1 : (j == m) = true := by simp; omega
    clear h hl hrd hm g1 g2 g3 hw1 hb1 hr hj hi1 he l0 hms
    go_enter Tryd.func46, Tryd.ntmps46
    go_upto_region 1 with fail
    rw [HW1.out]
    go_wp2_with fail
    go_quiet (fail)
    go_wp2_with fail
    refine bodyPost_ret (v := .agg #[.int .i64 (i1 : Nat), .int .i64 0]) ?_ rfl ⟨by rw [HR.out]; rfl, ?_⟩
    · rw [results_cell1 rfl]
      go_simp
    · have h2 := HB1.out
      (repeat' (first | exact h2 | omega | with_reducible refine bdrewN ?_ _ | with_reducible refine Below.drew ?_ | with_reducible refine setCell_below ?_ _ _ _ ?_))
  · rw [if_neg he] at hr
    have HR : Hid (r = (p1, j)) := hr.symm
    have t0 : ((j : Int) == (m : Int)) = false := by simp; omega
    have t1 : (j == m) = false := by simp; omega
    clear h hl hrd hm g1 g2 g3 hw1 hb1 hr hj hi1 he l0 hms
    go_enter Tryd.func46, Tryd.ntmps46
    go_upto_region 1 with fail
    rw [HW1.out]
    go_wp2_with fail
    go_quiet (fail)
    go_wp2_with fail
    refine bodyPost_ret (v := .agg #[.int .i64 (p1 : Nat), .int .i64 (j : Nat)]) ?_ rfl ⟨by rw [HR.out]; rfl, ?_⟩
    · rw [results_cell1 rfl]
      go_simp
    · have h2 := HB1.out
      (repeat' (first | exact h2 | omega | with_reducible refine bdrewN ?_ _ | with_reducible refine Below.drew ?_ | with_reducible refine setCell_below ?_ _ _ _ ?_))
set_option maxHeartbeats 1000000 in
theorem aahead_any (F : Nat → Prop) (a : Option Addr) (n c l q : Nat) (ar : Bool) (L : List (List Int)) (p1 p2 : Nat) (w : World) (h : RdL F w a n c L) (hp : p1 < n) (h2 : p2 ≤ (lnL L p1).length) :
    Calls Tryd.prog 47 #[askL a n c l q ar, .agg #[.int .i64 (p1 : Nat), .int .i64 (p2 : Nat)]] w fun e w' => e = .returned (plV (ahePl L (p1, p2))) ∧ Below w.heap.size w w' := by
  have hl := h.len
  have hsm := h.small
  have hnc : n ≤ c := by obtain ⟨vs, h1, _⟩ := h; exact h1.2.1
  have hcs : c ≤ 9223372036854775807 := by obtain ⟨vs, h1, _⟩ := h; have := h1.2.2.1; unfold maxLen at this; omega
  have hms := lns_small h p1
  obtain ⟨b, off, ra, rc, rfl, -, hbl, -, -⟩ := okP.line (p := (p1, 0)) h ⟨by simp only; omega, by simp⟩ (Below.refl _ w)
  obtain ⟨r, hr⟩ : ∃ r, ahePl L (p1, p2) = r := ⟨_, rfl⟩
  rw [hr]
  unfold ahePl at hr
  simp only at hr
  obtain ⟨w1, hw1, hsz, g1, g2, g3, hb1⟩ := three3 w (askO (some ⟨b, off, none⟩) n c l q ar) (.cells #[.int .i64 (p1 : Nat), .int .i64 (p2 : Nat)] 24) (.cells #[.int .i64 0, .int .i64 0] 24)
  obtain ⟨x0, x1, x2, x3⟩ := row4 g1
  obtain ⟨y0, y1, yf0, yf1⟩ := row2 g2
  obtain ⟨z0, z1, zf0, zf1⟩ := row2 g3
  have n3 : ¬ w.heap.size + 1 = w.heap.size + 1 + 1 := by omega
  have HLC : Hid (∀ W, Below w.heap.size w W → Calls Tryd.prog 50 #[.slice (some ⟨b, off, none⟩) p1 c] W fun e w' => e = .returned (plV (lastP (L.take p1))) ∧ Below W.heap.size W w') := fun W hW => wlast0_any F _ p1 c (L.take p1) W ((h.below hW).take p1 (by omega))
  have HW1 := Lib.hid hw1
  have HB1 := Lib.hid hb1
  have G3 := Lib.hid g3
  have s2 : ¬ (p1 : Int) < 0 := by omega
  have s3 : decide ((p1 : Int) < 0) = false := by simp
  have s6 : p1 ≤ c := by omega
  have s7 : (p1 : Int) ≤ 9223372036854775807 := by omega
  by_cases he : p2 = 0
  · rw [if_pos he] at hr
    obtain ⟨r1, r2⟩ := r
    rw [hr] at HLC
    unfold plV at HLC ⊢
    simp only at HLC ⊢
    have t0 : ((p2 : Int) == 0) = true := by simp; omega
    clear h hl g1 g2 g3 hw1 hb1 hr he hms
    go_enter Tryd.func47, Tryd.ntmps47
    go_upto_region 1 with fail
    rw [HW1.out]
    go_wp2_with (go_at_call 50; refine (HLC.out _ HB1.out).mono ?_; rintro e w3 ⟨rfl, hb3⟩; have g3 := keepO G3.out hb3; obtain ⟨z0, z1, zf0, zf1⟩ := row2 g3; have HB3 := Lib.hid (btr HB1.out hb3); clear g3 hb3)
    refine bodyPost_ret (v := .agg #[.int .i64 (r1 : Nat), .int .i64 (r2 : Nat)]) ?_ rfl ⟨rfl, ?_⟩
    · rw [results_cell1 rfl]
      go_simp
    · have h2 := HB3.out
      (repeat' (first | exact h2 | omega | with_reducible refine Below.drew ?_ | with_reducible refine setCell_below ?_ _ _ _ ?_))
  · rw [if_neg he] at hr
    obtain ⟨j, hj⟩ : ∃ j, p2 - 1 = j := ⟨_, rfl⟩
    rw [hj] at hr
    have HR : Hid (r = (p1, j)) := hr.symm
    have t0 : ((p2 : Int) == 0) = false := by simp; omega
    have s0 : (p2 : Int) - 1 = (j : Int) := by omega
    have s1 : (j : Int) ≤ 9223372036854775807 := by omega
    clear h hl g1 g2 g3 hw1 hb1 hr he hms hj
    go_enter Tryd.func47, Tryd.ntmps47
    go_upto_region 1 with fail
    rw [HW1.out]
    go_wp2_with fail
    refine bodyPost_ret (v := .agg #[.int .i64 (p1 : Nat), .int .i64 (j : Nat)]) ?_ rfl ⟨by rw [HR.out]; rfl, ?_⟩
    · rw [results_cell1 rfl]
      go_simp
    · have h2 := HB1.out
      (repeat' (first | exact h2 | omega | with_reducible refine Below.drew ?_ | with_reducible refine setCell_below ?_ _ _ _ ?_))

/-- what lies in between's boxes -/
def BtS (w : World) (A : Obj) (p1 p2 q1 q2 : Nat) (W : World) : Prop := Below w.heap.size w W ∧ W.heap[w.heap.size]? = some A ∧ W.heap[w.heap.size + 1]? = some (.cells #[.int .i64 (p1 : Nat), .int .i64 (p2 : Nat)] 24 (0, 0)) ∧ W.heap[w.heap.size + 1 + 1]? = some (.cells #[.int .i64 (q1 : Nat), .int .i64 (q2 : Nat)] 24 (0, 0)) ∧ W.heap[w.heap.size + 1 + 1 + 1]? = some (.cells #[.int .i64 0, .int .i64 0, .int .i64 0, .int .i64 0, .int .i64 0] 41 (0, 0))
theorem BtS.below {w W W2 : World} {A : Obj} {p1 p2 q1 q2 : Nat} (h : BtS w A p1 p2 q1 q2 W) (hb : Below W.heap.size W W2) : BtS w A p1 p2 q1 q2 W2 := by
  obtain ⟨h1, h2, h3, h4, h5⟩ := h
  exact ⟨btr h1 hb, keepO h2 hb, keepO h3 hb, keepO h4 hb, keepO h5 hb⟩
theorem BtS.drew {w W : World} {A : Obj} {p1 p2 q1 q2 : Nat} (h : BtS w A p1 p2 q1 q2 W) : BtS w A p1 p2 q1 q2 W.drew := h.below ((Below.refl _ W).drew)
theorem row5 {w : World} {b : Nat} {ty : TypeId} {v0 v1 v2 v3 v4 : Value} (h : w.heap[b]? = some (.cells #[v0, v1, v2, v3, v4] ty (0, 0))) :
    w.cell? ⟨b, 0, none⟩ = some v0 ∧ w.cell? ⟨b, 1, none⟩ = some v1 ∧ w.cell? ⟨b, 2, none⟩ = some v2 ∧ w.cell? ⟨b, 3, none⟩ = some v3 ∧ w.cell? ⟨b, 4, none⟩ = some v4 ∧ w.frozen? ⟨b, 0, none⟩ = false ∧ w.frozen? ⟨b, 1, none⟩ = false ∧ w.frozen? ⟨b, 2, none⟩ = false ∧ w.frozen? ⟨b, 3, none⟩ = false ∧ w.frozen? ⟨b, 4, none⟩ = false := by
  refine ⟨by rw [cell_row h]; rfl, by rw [cell_row h]; rfl, by rw [cell_row h]; rfl, by rw [cell_row h]; rfl, by rw [cell_row h]; rfl, ?_, ?_, ?_, ?_, ?_⟩ <;> simp [World.frozen?, h]
theorem BtS.cells {w W : World} {a : Option Addr} {n c l q : Nat} {ar : Bool} {p1 p2 q1 q2 : Nat} (h : BtS w (askO a n c l q ar) p1 p2 q1 q2 W) : (W.cell? ⟨w.heap.size, 0, none⟩ = some (.slice a n c) ∧ W.cell? ⟨w.heap.size, 1, none⟩ = some (.int .i64 (l : Nat)) ∧ W.cell? ⟨w.heap.size, 2, none⟩ = some (.int .i64 (q : Nat)) ∧ W.cell? ⟨w.heap.size, 3, none⟩ = some (.bool ar)) ∧
    (W.cell? ⟨w.heap.size + 1, 0, none⟩ = some (.int .i64 (p1 : Nat)) ∧ W.cell? ⟨w.heap.size + 1, 1, none⟩ = some (.int .i64 (p2 : Nat)) ∧ W.frozen? ⟨w.heap.size + 1, 0, none⟩ = false ∧ W.frozen? ⟨w.heap.size + 1, 1, none⟩ = false) ∧
    (W.cell? ⟨w.heap.size + 1 + 1, 0, none⟩ = some (.int .i64 (q1 : Nat)) ∧ W.cell? ⟨w.heap.size + 1 + 1, 1, none⟩ = some (.int .i64 (q2 : Nat)) ∧ W.frozen? ⟨w.heap.size + 1 + 1, 0, none⟩ = false ∧ W.frozen? ⟨w.heap.size + 1 + 1, 1, none⟩ = false) := ⟨row4 h.2.1, row2 h.2.2.1, row2 h.2.2.2.1⟩
theorem BtS.put {w W : World} {A : Obj} {p1 p2 q1 q2 : Nat} (h : BtS w A p1 p2 q1 q2 W) (f1 f2 t1 t2 : Nat) :
    BtS w A f1 f2 t1 t2 ((((W.setCell ⟨w.heap.size + 1, 0, none⟩ (.int .i64 (f1 : Nat))).setCell ⟨w.heap.size + 1, 1, none⟩ (.int .i64 (f2 : Nat))).setCell ⟨w.heap.size + 1 + 1, 0, none⟩ (.int .i64 (t1 : Nat))).setCell ⟨w.heap.size + 1 + 1, 1, none⟩ (.int .i64 (t2 : Nat))) := by
  obtain ⟨h1, h2, h3, h4, h5⟩ := h
  have k1 : ¬ w.heap.size = w.heap.size + 1 := by omega
  have k2 : ¬ w.heap.size = w.heap.size + 1 + 1 := by omega
  have k3 : ¬ w.heap.size + 1 = w.heap.size + 1 + 1 := by omega
  have k4 : ¬ w.heap.size + 1 + 1 = w.heap.size + 1 := by omega
  have k5 : ¬ w.heap.size + 1 + 1 + 1 = w.heap.size + 1 := by omega
  have k6 : ¬ w.heap.size + 1 + 1 + 1 = w.heap.size + 1 + 1 := by omega
  refine ⟨setCell_below (setCell_below (setCell_below (setCell_below h1 _ _ _ (by omega)) _ _ _ (by omega)) _ _ _ (by omega)) _ _ _ (by omega), ?_, ?_, ?_, ?_⟩
  · exact (Below.heap_setCell _ _ _ _ k2).trans ((Below.heap_setCell _ _ _ _ k2).trans ((Below.heap_setCell _ _ _ _ k1).trans ((Below.heap_setCell _ _ _ _ k1).trans h2)))
  · exact (Below.heap_setCell _ _ _ _ k3).trans ((Below.heap_setCell _ _ _ _ k3).trans (heap_set (heap_set h3 0 _) 1 _))
  · refine heap_set (heap_set (cs := #[.int .i64 (q1 : Nat), .int .i64 (q2 : Nat)]) ?_ 0 _) 1 _
    exact (Below.heap_setCell _ _ _ _ k4).trans ((Below.heap_setCell _ _ _ _ k4).trans h4)
  · exact (Below.heap_setCell _ _ _ _ k6).trans ((Below.heap_setCell _ _ _ _ k6).trans ((Below.heap_setCell _ _ _ _ k5).trans ((Below.heap_setCell _ _ _ _ k5).trans h5)))
end Go.Proofs.YthlhgkeodaifcaaDoor.U
