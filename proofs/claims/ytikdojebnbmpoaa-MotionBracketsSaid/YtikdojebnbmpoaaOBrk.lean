/-
  The bracket that belongs to one: bracketOf, entry, belonging. (MADE by wip/tools/gen_obrk.py.)
-/
import Derived.Test.YtikdojebnbmpoaaOLeadB
import Derived.Test.YtikdojebnbmpoaaOBrP
namespace Go.Proofs.Ytikdojebnbmpoaa.U
open Go.RowKit
set_option linter.unusedVariables false
set_option linter.unusedSimpArgs false
set_option maxRecDepth 100000

/-- a bracket as it is told: itself, the other one, to which side -/
def brkT (r : Int) : Int × Int × Int := match pairR r with
  | none => (0, 0, 0)
  | some (o, true) => (r, o, 1)
  | some (o, false) => (r, o, -1)
theorem bracketOf_any (r : Int) (w : World) :
    Calls Try.prog 56 #[.int .i32 r] w fun e w' => e = .returned (.agg #[.int .i32 (brkT r).1, .int .i32 (brkT r).2.1, .int .i64 (brkT r).2.2]) ∧ Below w.heap.size w w' := by
  obtain ⟨w1, hw1, hsz, g1, hb1⟩ := one1 w (.cells #[.int .i32 0, .int .i32 0, .int .i64 0] 63)
  have c0 : w1.cell? ⟨w.heap.size, 0, none⟩ = some (.int .i32 0) := by rw [cell_row g1]; rfl
  have c1 : w1.cell? ⟨w.heap.size, 1, none⟩ = some (.int .i32 0) := by rw [cell_row g1]; rfl
  have c2 : w1.cell? ⟨w.heap.size, 2, none⟩ = some (.int .i64 0) := by rw [cell_row g1]; rfl
  have f0 := frozen_row g1 0
  have f1 := frozen_row g1 1
  have f2 := frozen_row g1 2
  have HW1 := Lib.hid hw1
  have HB1 := Lib.hid hb1
  clear hw1 hb1 g1 hsz
  by_cases h1 : r = 40 ∨ r = 91 ∨ r = 123 ∨ r = 41 ∨ r = 93 ∨ r = 125
  · rcases h1 with rfl | rfl | rfl | rfl | rfl | rfl
    · rw [show brkT 40 = (40, 41, 1) from rfl]
      go_enter Try.func56, Try.ntmps56
      go_upto_region 1 with fail
      rw [HW1.out]
      go_wp2_with fail
      refine bodyPost_ret (v := .agg #[.int .i32 40, .int .i32 41, .int .i64 (1)]) ?_ rfl ⟨rfl, ?_⟩
      · rw [results_cell1 rfl]
        go_simp
      · (repeat' (first | exact HB1.out | omega | refine setCell_below ?_ _ _ _ ?_))
    · rw [show brkT 91 = (91, 93, 1) from rfl]
      go_enter Try.func56, Try.ntmps56
      go_upto_region 1 with fail
      rw [HW1.out]
      go_wp2_with fail
      refine bodyPost_ret (v := .agg #[.int .i32 91, .int .i32 93, .int .i64 (1)]) ?_ rfl ⟨rfl, ?_⟩
      · rw [results_cell1 rfl]
        go_simp
      · (repeat' (first | exact HB1.out | omega | refine setCell_below ?_ _ _ _ ?_))
    · rw [show brkT 123 = (123, 125, 1) from rfl]
      go_enter Try.func56, Try.ntmps56
      go_upto_region 1 with fail
      rw [HW1.out]
      go_wp2_with fail
      refine bodyPost_ret (v := .agg #[.int .i32 123, .int .i32 125, .int .i64 (1)]) ?_ rfl ⟨rfl, ?_⟩
      · rw [results_cell1 rfl]
        go_simp
      · (repeat' (first | exact HB1.out | omega | refine setCell_below ?_ _ _ _ ?_))
    · rw [show brkT 41 = (41, 40, -1) from rfl]
      go_enter Try.func56, Try.ntmps56
      go_upto_region 1 with fail
      rw [HW1.out]
      go_wp2_with fail
      refine bodyPost_ret (v := .agg #[.int .i32 41, .int .i32 40, .int .i64 (-1)]) ?_ rfl ⟨rfl, ?_⟩
      · rw [results_cell1 rfl]
        go_simp
      · (repeat' (first | exact HB1.out | omega | refine setCell_below ?_ _ _ _ ?_))
    · rw [show brkT 93 = (93, 91, -1) from rfl]
      go_enter Try.func56, Try.ntmps56
      go_upto_region 1 with fail
      rw [HW1.out]
      go_wp2_with fail
      refine bodyPost_ret (v := .agg #[.int .i32 93, .int .i32 91, .int .i64 (-1)]) ?_ rfl ⟨rfl, ?_⟩
      · rw [results_cell1 rfl]
        go_simp
      · (repeat' (first | exact HB1.out | omega | refine setCell_below ?_ _ _ _ ?_))
    · rw [show brkT 125 = (125, 123, -1) from rfl]
      go_enter Try.func56, Try.ntmps56
      go_upto_region 1 with fail
      rw [HW1.out]
      go_wp2_with fail
      refine bodyPost_ret (v := .agg #[.int .i32 125, .int .i32 123, .int .i64 (-1)]) ?_ rfl ⟨rfl, ?_⟩
      · rw [results_cell1 rfl]
        go_simp
      · (repeat' (first | exact HB1.out | omega | refine setCell_below ?_ _ _ _ ?_))
  · have hp : pairR r = none := by
      unfold pairR
      rw [if_neg (by omega), if_neg (by omega), if_neg (by omega), if_neg (by omega), if_neg (by omega), if_neg (by omega)]
    have hb : brkT r = (0, 0, 0) := by unfold brkT; rw [hp]
    rw [hb]
    have e40 : (r == 40) = false := by simp; omega
    have n40 : ¬ r = 40 := by omega
    have e91 : (r == 91) = false := by simp; omega
    have n91 : ¬ r = 91 := by omega
    have e123 : (r == 123) = false := by simp; omega
    have n123 : ¬ r = 123 := by omega
    have e41 : (r == 41) = false := by simp; omega
    have n41 : ¬ r = 41 := by omega
    have e93 : (r == 93) = false := by simp; omega
    have n93 : ¬ r = 93 := by omega
    have e125 : (r == 125) = false := by simp; omega
    have n125 : ¬ r = 125 := by omega
    clear h1 hp hb
    go_enter Try.func56, Try.ntmps56
    go_upto_region 1 with fail
    rw [HW1.out]
    go_wp2_with fail
    refine bodyPost_ret (v := .agg #[.int .i32 0, .int .i32 0, .int .i64 0]) ?_ rfl ⟨rfl, ?_⟩
    · rw [results_cell1 rfl]
      go_simp
    · (repeat' (first | exact HB1.out | omega | refine setCell_below ?_ _ _ _ ?_))
set_option maxHeartbeats 1000000 in
theorem entry_in (F : Nat → Prop) (a : Option Addr) (n c l q : Nat) (t : Nat) (key cnt arg want : Int) (op : Bool) (L : List (List Int)) (x : List Int) (i : Nat) (s : Int) (w : World) (h : RdL F w a n c L) (hx : L[i]? = some x) (hs : s < 0) (m : Nat) (hm : x.length = m) :
    Calls Try.prog 71 #[askL a n c l q (t : Nat) key cnt arg want op, .int .i64 (i : Nat), .int .i64 s] w fun e w' => e = .returned (.agg #[.int .i64 (i : Nat), .int .i64 ((m : Int) - 1)]) ∧ Below w.heap.size w w' := by
  have hln : i < n := by rw [← h.len]; exact (List.getElem?_eq_some_iff.1 hx).1
  have hsm := h.small
  obtain ⟨b, off, ra, rc, rfl, hbl, -, e0, hrd, -, -⟩ := h.get (Below.refl _ w) hx
  have hms := hrd.small
  rw [hm] at e0 hms
  have s0 : ¬ (i : Int) < 0 := by omega
  have s1 : decide ((i : Int) < 0) = false := by simp
  have s2 : decide (s < 0) = true := by simp; omega
  have s3 : decide ((0 : Int) ≤ (i : Int)) = true := by simp
  have s4 : IntKind.i64.wrap ((m : Int) - 1) = (m : Int) - 1 := by rw [IntKind.wrap_i64]; omega
  obtain ⟨w1, hw1, hsz, g1, g2, hb1⟩ := two2 w (askO (some ⟨b, off, none⟩) n c l q (t : Nat) key cnt arg want op) (.cells #[.int .i64 0, .int .i64 0] 24)
  have hszz := hsz
  have HW1 := Lib.hid hw1
  have HB1 := Lib.hid hb1
  have G1 := Lib.hid g1
  have G2 := Lib.hid g2
  clear hw1 hb1 g1 g2 hsz h hx hrd hm
  go_enter Try.func71, Try.ntmps71
  go_upto_region 1 with fail
  rw [HW1.out]
  go_upto_region 2 with fail
  obtain ⟨w3, hw3, hsz3, g3, hb3⟩ := one1 w1 (.cells #[.int .i64 (i : Nat), .int .i64 0] 24)
  rw [hw3]
  have hx2 : Below w.heap.size w w3 := btr HB1.out hb3
  obtain ⟨x0, x1, x2, x3, x4, x5, x6, x7, x8⟩ := row9 ((hb3.block _ (Array.getElem?_eq_some_iff.1 G1.out).1).trans G1.out)
  obtain ⟨b0, b1, z0, z1⟩ := row2 ((hb3.block _ (Array.getElem?_eq_some_iff.1 G2.out).1).trans G2.out)
  rw [hszz] at g3
  obtain ⟨y0, y1, f0, f1⟩ := row2 g3
  have HX2 := Lib.hid hx2
  have e1 : w3.cell? ⟨b, off + i, none⟩ = some (.slice ra m rc) := (HX2.out.cell (p := ⟨b, off + i, none⟩) hbl).trans e0
  have nb : ¬ b = w.heap.size + 2 := by omega
  clear hw3 g3 hb3 hsz3 hx2
  go_wp2_with fail
  refine bodyPost_ret (v := .agg #[.int .i64 (i : Nat), .int .i64 ((m : Int) - 1)]) ?_ rfl ⟨rfl, ?_⟩
  · rw [results_cell1 rfl]
    go_simp
  · (repeat' (first | exact HX2.out | omega | refine setCell_below ?_ _ _ _ ?_))
set_option maxHeartbeats 1000000 in
theorem entry_low (a : Option Addr) (n c l q : Nat) (t : Nat) (key cnt arg want : Int) (op : Bool) (v s : Int) (w : World) (hs : s < 0) (hv : v < 0) :
    Calls Try.prog 71 #[askL a n c l q (t : Nat) key cnt arg want op, .int .i64 v, .int .i64 s] w fun e w' => e = .returned (.agg #[.int .i64 v, .int .i64 (0)]) ∧ Below w.heap.size w w' := by
  have s2 : decide (s < 0) = true := by simp; omega
  have s3 : decide (0 ≤ v) = false := by simp; omega
  have s4 : ¬ 0 ≤ v := by omega
  obtain ⟨w1, hw1, hsz, g1, g2, hb1⟩ := two2 w (askO a n c l q (t : Nat) key cnt arg want op) (.cells #[.int .i64 0, .int .i64 0] 24)
  have hszz := hsz
  have HW1 := Lib.hid hw1
  have HB1 := Lib.hid hb1
  have G1 := Lib.hid g1
  have G2 := Lib.hid g2
  clear hw1 hb1 g1 g2 hsz 
  go_enter Try.func71, Try.ntmps71
  go_upto_region 1 with fail
  rw [HW1.out]
  go_upto_region 2 with fail
  obtain ⟨w3, hw3, hsz3, g3, hb3⟩ := one1 w1 (.cells #[.int .i64 v, .int .i64 0] 24)
  rw [hw3]
  have hx2 : Below w.heap.size w w3 := btr HB1.out hb3
  obtain ⟨x0, x1, x2, x3, x4, x5, x6, x7, x8⟩ := row9 ((hb3.block _ (Array.getElem?_eq_some_iff.1 G1.out).1).trans G1.out)
  obtain ⟨b0, b1, z0, z1⟩ := row2 ((hb3.block _ (Array.getElem?_eq_some_iff.1 G2.out).1).trans G2.out)
  rw [hszz] at g3
  obtain ⟨y0, y1, f0, f1⟩ := row2 g3
  have HX2 := Lib.hid hx2
  clear hw3 g3 hb3 hsz3 hx2
  go_wp2_with fail
  refine bodyPost_ret (v := .agg #[.int .i64 v, .int .i64 (0)]) ?_ rfl ⟨rfl, ?_⟩
  · rw [results_cell1 rfl]
    go_simp
  · (repeat' (first | exact HX2.out | omega | refine setCell_below ?_ _ _ _ ?_))
set_option maxHeartbeats 1000000 in
theorem entry_high (a : Option Addr) (n c l q : Nat) (t : Nat) (key cnt arg want : Int) (op : Bool) (v s : Int) (w : World) (hs : ¬ s < 0) :
    Calls Try.prog 71 #[askL a n c l q (t : Nat) key cnt arg want op, .int .i64 v, .int .i64 s] w fun e w' => e = .returned (.agg #[.int .i64 v, .int .i64 (0)]) ∧ Below w.heap.size w w' := by
  have s2 : decide (s < 0) = false := by simp; omega
  obtain ⟨w1, hw1, hsz, g1, g2, hb1⟩ := two2 w (askO a n c l q (t : Nat) key cnt arg want op) (.cells #[.int .i64 0, .int .i64 0] 24)
  have hszz := hsz
  have HW1 := Lib.hid hw1
  have HB1 := Lib.hid hb1
  have G1 := Lib.hid g1
  have G2 := Lib.hid g2
  clear hw1 hb1 g1 g2 hsz 
  go_enter Try.func71, Try.ntmps71
  go_upto_region 1 with fail
  rw [HW1.out]
  go_upto_region 2 with fail
  obtain ⟨w3, hw3, hsz3, g3, hb3⟩ := one1 w1 (.cells #[.int .i64 v, .int .i64 0] 24)
  rw [hw3]
  have hx2 : Below w.heap.size w w3 := btr HB1.out hb3
  obtain ⟨x0, x1, x2, x3, x4, x5, x6, x7, x8⟩ := row9 ((hb3.block _ (Array.getElem?_eq_some_iff.1 G1.out).1).trans G1.out)
  obtain ⟨b0, b1, z0, z1⟩ := row2 ((hb3.block _ (Array.getElem?_eq_some_iff.1 G2.out).1).trans G2.out)
  rw [hszz] at g3
  obtain ⟨y0, y1, f0, f1⟩ := row2 g3
  have HX2 := Lib.hid hx2
  clear hw3 g3 hb3 hsz3 hx2
  go_wp2_with fail
  refine bodyPost_ret (v := .agg #[.int .i64 v, .int .i64 (0)]) ?_ rfl ⟨rfl, ?_⟩
  · rw [results_cell1 rfl]
    go_simp
  · (repeat' (first | exact HX2.out | omega | refine setCell_below ?_ _ _ _ ?_))
theorem entry_any (F : Nat → Prop) (a : Option Addr) (n c l q : Nat) (t : Nat) (key cnt arg want : Int) (op : Bool) (L : List (List Int)) (v s : Int) (w : World) (h : RdL F w a n c L) (hv : s < 0 → v < (n : Int)) :
    Calls Try.prog 71 #[askL a n c l q (t : Nat) key cnt arg want op, .int .i64 v, .int .i64 s] w fun e w' => e = .returned (.agg #[.int .i64 v, .int .i64 (entC L s v)]) ∧ Below w.heap.size w w' := by
  by_cases hs : s < 0
  · by_cases h0 : v < 0
    · have : entC L s v = 0 := by unfold entC; rw [if_neg (by omega)]
      rw [this]
      exact entry_low a n c l q t key cnt arg want op v s w hs h0
    · obtain ⟨i, rfl⟩ : ∃ i : Nat, v = (i : Int) := ⟨v.toNat, by omega⟩
      have hi : i < L.length := by rw [h.len]; have := hv hs; omega
      have : entC L s (i : Int) = ((lnL L i).length : Int) - 1 := by unfold entC; rw [if_pos (by omega), Int.toNat_natCast]
      rw [this]
      exact entry_in F a n c l q t key cnt arg want op L (lnL L i) i s w h (by unfold lnL; rw [List.getD_eq_getElem?_getD, List.getElem?_eq_getElem hi]; rfl) hs _ rfl
  · have : entC L s v = 0 := by unfold entC; rw [if_neg (by omega)]
    rw [this]
    exact entry_high a n c l q t key cnt arg want op v s w hs
end Go.Proofs.Ytikdojebnbmpoaa.U
