/-
  f, F, t, T as motions. (MADE by wip/tools/gen_till.py.)
-/
import Derived.Test.YtikdojebnbmpoaaOFind
namespace Go.Proofs.Ytikdojebnbmpoaa.U
open Go.RowKit
set_option linter.unusedVariables false
set_option linter.unusedSimpArgs false
set_option maxRecDepth 100000

set_option maxHeartbeats 1000000 in
theorem tillF_any (F : Nat → Prop) (a : Option Addr) (n c l q : Nat) (t : Nat) (key cnt arg want : Int) (op : Bool) (L : List (List Int)) (w : World) (h : RdL F w a n c L) (hp : okP L (l, q)) (ht : (t : Int) ≤ 9223372036854775807) (ht1 : 1 ≤ t) (p1 p2 : Nat) (ok : Bool) (hpp : fndP l (nthF (lnL L l) arg q t) = (p1, p2)) (hok : (nthF (lnL L l) arg q t).isSome = ok) (hp2 : (p2 : Int) < 9223372036854775807) :
    Calls Try.prog 55 #[askL a n c l q (t : Nat) key cnt arg want op, Value.int .i64 (1)] w fun e w' => e = .returned (.tuple #[.agg #[.int .i64 (p1 : Nat), .int .i64 ((p2 : Int) - 1)], .bool ok]) ∧ Below w.heap.size w w' := by
  have HFI : Hid (∀ W, Below w.heap.size w W → Calls Try.prog 54 #[askL a n c l q (t : Nat) key cnt arg want op, Value.int .i64 (1)] W fun e w' => e = .returned (.tuple #[.agg #[.int .i64 (p1 : Nat), .int .i64 (p2 : Nat)], .bool ok]) ∧ Below W.heap.size W w') := by
    intro W hW
    have := findF_any F a n c l q t key cnt arg want op L W (h.below hW) hp ht ht1
    rw [hpp, hok] at this
    exact this
  obtain ⟨v, hv⟩ : ∃ v : Int, (p2 : Int) - 1 = v := ⟨_, rfl⟩
  have k1 : IntKind.i64.wrap v = v := by rw [IntKind.wrap_i64]; omega
  have k2 : (p2 : Int) - 1 = v := by omega
  rw [hv]
  clear h hp hpp hok
  obtain ⟨w1, hw1, ha1⟩ := lead_start w (askO a n c l q (t : Nat) key cnt arg want op)
  obtain ⟨x0, x1, x2, x3, x4, x5, x6, x7, x8⟩ := ha1.cells
  obtain ⟨pv0, pv1, pc0, pc1, pz0, pz1⟩ := ha1.pos
  have HW1 := Lib.hid hw1
  have HA1 := Lib.hid ha1
  clear hw1 ha1
  go_enter Try.func55, Try.ntmps55
  go_upto_region 1 with fail
  rw [HW1.out]
  go_upto_region 2 with (go_at_call 54; refine (HFI.out _ HA1.out.1).mono ?_; rintro e w2 ⟨rfl, hb2⟩; have HA2 := Lib.hid (HA1.out.below hb2))
  obtain ⟨w3, hw3, hsz3, g3, hb3⟩ := one1 w2 (.cells #[.int .i64 (p1 : Nat), .int .i64 (p2 : Nat)] 24)
  rw [hw3]
  have HA3 := Lib.hid (HA2.out.below hb3)
  obtain ⟨y0, y1, f0, f1⟩ := row2 g3
  have hlt : w.heap.size + 1 < w2.heap.size := by obtain ⟨_, _, _, _, h3⟩ := HA2.out; exact (Array.getElem?_eq_some_iff.1 h3).1
  have n0 : ¬ w.heap.size = w2.heap.size := by omega
  have n1 : ¬ w.heap.size + 1 = w2.heap.size := by omega
  have n2 : ¬ w2.heap.size = w.heap.size + 1 := by omega
  have hs3 : w3.heap[w2.heap.size]? = some (.cells #[.int .i64 (p1 : Nat), .int .i64 (p2 : Nat)] 24 (0, 0)) := g3
  have HA4 : Hid (AkS w (askO a n c l q (t : Nat) key cnt arg want op) (w3.setCell ⟨w2.heap.size, 1, none⟩ (.int .i64 v))) := by
    obtain ⟨h1, h2, v0, v1, h3⟩ := HA3.out
    refine ⟨setCell_below h1 _ _ _ (by omega), ?_, v0, v1, ?_⟩
    · exact (Below.heap_setCell _ _ _ _ n0).trans h2
    · exact (Below.heap_setCell _ _ _ _ n1).trans h3
  obtain ⟨w4, hw4⟩ : ∃ w4, w3.setCell ⟨w2.heap.size, 1, none⟩ (.int .i64 v) = w4 := ⟨_, rfl⟩
  obtain ⟨u0, u1, -, -⟩ := row2 (show w4.heap[w2.heap.size]? = some (.cells #[.int .i64 (p1 : Nat), .int .i64 v] 24 (0, 0)) by rw [← hw4]; exact heap_set hs3 1 _)
  rw [hw4] at HA4
  obtain ⟨pv0, pv1, pc0, pc1, pz0, pz1⟩ := HA4.out.pos
  have HW4 := Lib.hid hw4
  clear hw3 hs3 g3 hb3 hw4
  go_upto_region 3 with fail
  rw [HW4.out]
  go_wp2_with fail
  refine bodyPost_ret (v := .tuple #[.agg #[.int .i64 (p1 : Nat), .int .i64 v], .bool ok]) ?_ rfl ⟨rfl, ?_⟩
  · rw [results_ct rfl]
    go_simp
  · exact (HA4.out.store _ _).1
set_option maxHeartbeats 1000000 in
theorem tillB_any (F : Nat → Prop) (a : Option Addr) (n c l q : Nat) (t : Nat) (key cnt arg want : Int) (op : Bool) (L : List (List Int)) (w : World) (h : RdL F w a n c L) (hp : okP L (l, q)) (ht : (t : Int) ≤ 9223372036854775807) (ht1 : 1 ≤ t) (p1 p2 : Nat) (ok : Bool) (hpp : fndP l (nthB (lnL L l) arg q t) = (p1, p2)) (hok : (nthB (lnL L l) arg q t).isSome = ok) (hp2 : (p2 : Int) < 9223372036854775807) :
    Calls Try.prog 55 #[askL a n c l q (t : Nat) key cnt arg want op, Value.int .i64 (-1)] w fun e w' => e = .returned (.tuple #[.agg #[.int .i64 (p1 : Nat), .int .i64 ((p2 : Int) + 1)], .bool ok]) ∧ Below w.heap.size w w' := by
  have HFI : Hid (∀ W, Below w.heap.size w W → Calls Try.prog 54 #[askL a n c l q (t : Nat) key cnt arg want op, Value.int .i64 (-1)] W fun e w' => e = .returned (.tuple #[.agg #[.int .i64 (p1 : Nat), .int .i64 (p2 : Nat)], .bool ok]) ∧ Below W.heap.size W w') := by
    intro W hW
    have := findB_any F a n c l q t key cnt arg want op L W (h.below hW) hp ht ht1
    rw [hpp, hok] at this
    exact this
  obtain ⟨v, hv⟩ : ∃ v : Int, (p2 : Int) + 1 = v := ⟨_, rfl⟩
  have k1 : IntKind.i64.wrap v = v := by rw [IntKind.wrap_i64]; omega
  have k2 : (p2 : Int) - -1 = v := by omega
  rw [hv]
  clear h hp hpp hok
  obtain ⟨w1, hw1, ha1⟩ := lead_start w (askO a n c l q (t : Nat) key cnt arg want op)
  obtain ⟨x0, x1, x2, x3, x4, x5, x6, x7, x8⟩ := ha1.cells
  obtain ⟨pv0, pv1, pc0, pc1, pz0, pz1⟩ := ha1.pos
  have HW1 := Lib.hid hw1
  have HA1 := Lib.hid ha1
  clear hw1 ha1
  go_enter Try.func55, Try.ntmps55
  go_upto_region 1 with fail
  rw [HW1.out]
  go_upto_region 2 with (go_at_call 54; refine (HFI.out _ HA1.out.1).mono ?_; rintro e w2 ⟨rfl, hb2⟩; have HA2 := Lib.hid (HA1.out.below hb2))
  obtain ⟨w3, hw3, hsz3, g3, hb3⟩ := one1 w2 (.cells #[.int .i64 (p1 : Nat), .int .i64 (p2 : Nat)] 24)
  rw [hw3]
  have HA3 := Lib.hid (HA2.out.below hb3)
  obtain ⟨y0, y1, f0, f1⟩ := row2 g3
  have hlt : w.heap.size + 1 < w2.heap.size := by obtain ⟨_, _, _, _, h3⟩ := HA2.out; exact (Array.getElem?_eq_some_iff.1 h3).1
  have n0 : ¬ w.heap.size = w2.heap.size := by omega
  have n1 : ¬ w.heap.size + 1 = w2.heap.size := by omega
  have n2 : ¬ w2.heap.size = w.heap.size + 1 := by omega
  have hs3 : w3.heap[w2.heap.size]? = some (.cells #[.int .i64 (p1 : Nat), .int .i64 (p2 : Nat)] 24 (0, 0)) := g3
  have HA4 : Hid (AkS w (askO a n c l q (t : Nat) key cnt arg want op) (w3.setCell ⟨w2.heap.size, 1, none⟩ (.int .i64 v))) := by
    obtain ⟨h1, h2, v0, v1, h3⟩ := HA3.out
    refine ⟨setCell_below h1 _ _ _ (by omega), ?_, v0, v1, ?_⟩
    · exact (Below.heap_setCell _ _ _ _ n0).trans h2
    · exact (Below.heap_setCell _ _ _ _ n1).trans h3
  obtain ⟨w4, hw4⟩ : ∃ w4, w3.setCell ⟨w2.heap.size, 1, none⟩ (.int .i64 v) = w4 := ⟨_, rfl⟩
  obtain ⟨u0, u1, -, -⟩ := row2 (show w4.heap[w2.heap.size]? = some (.cells #[.int .i64 (p1 : Nat), .int .i64 v] 24 (0, 0)) by rw [← hw4]; exact heap_set hs3 1 _)
  rw [hw4] at HA4
  obtain ⟨pv0, pv1, pc0, pc1, pz0, pz1⟩ := HA4.out.pos
  have HW4 := Lib.hid hw4
  clear hw3 hs3 g3 hb3 hw4
  go_upto_region 3 with fail
  rw [HW4.out]
  go_wp2_with fail
  refine bodyPost_ret (v := .tuple #[.agg #[.int .i64 (p1 : Nat), .int .i64 v], .bool ok]) ?_ rfl ⟨rfl, ?_⟩
  · rw [results_ct rfl]
    go_simp
  · exact (HA4.out.store _ _).1
theorem findBehind_any (F : Nat → Prop) (a : Option Addr) (n c l q : Nat) (t : Nat) (key cnt arg want : Int) (op : Bool) (L : List (List Int)) (w : World) (h : RdL F w a n c L) (hp : okP L (l, q)) (ht : (t : Int) ≤ 9223372036854775807) (ht1 : 1 ≤ t) (p1 p2 : Nat) (ok : Bool) (hpp : fndP l (nthF (lnL L l) arg q t) = (p1, p2)) (hok : (nthF (lnL L l) arg q t).isSome = ok) (hp2 : (p2 : Int) < 9223372036854775807) :
    Calls Try.prog 32 #[askL a n c l q (t : Nat) key cnt arg want op] w fun e w' => e = .returned (.tuple #[.agg #[.int .i64 (p1 : Nat), .int .i64 ((p2 : Nat))], .bool ok]) ∧ Below w.heap.size w w' := by
  obtain ⟨v, hv⟩ : ∃ v : Int, (p2 : Nat) = v := ⟨_, rfl⟩
  rw [hv]
  have HFI : Hid (∀ W, Below w.heap.size w W → Calls Try.prog 54 #[askL a n c l q (t : Nat) key cnt arg want op, Value.int .i64 (1)] W fun e w' => e = .returned (.tuple #[.agg #[.int .i64 (p1 : Nat), .int .i64 v], .bool ok]) ∧ Below W.heap.size W w') := by
    intro W hW
    have := findF_any F a n c l q t key cnt arg want op L W (h.below hW) hp ht ht1
    rw [hpp, hok] at this
    rw [← hv]
    exact this
  clear h hp hpp hok hv
  obtain ⟨w1, hw1, ha1⟩ := lead_start w (askO a n c l q (t : Nat) key cnt arg want op)
  obtain ⟨x0, x1, x2, x3, x4, x5, x6, x7, x8⟩ := ha1.cells
  obtain ⟨pv0, pv1, pc0, pc1, pz0, pz1⟩ := ha1.pos
  have HW1 := Lib.hid hw1
  have HA1 := Lib.hid ha1
  clear hw1 ha1
  go_enter Try.func32, Try.ntmps32
  go_upto_region 1 with fail
  rw [HW1.out]
  go_wp2_with (go_at_call 54; refine (HFI.out _ HA1.out.1).mono ?_; rintro e w2 ⟨rfl, hb2⟩; have HA2 := Lib.hid (HA1.out.below hb2); obtain ⟨x0, x1, x2, x3, x4, x5, x6, x7, x8⟩ := HA2.out.cells; obtain ⟨pv0, pv1, pc0, pc1, pz0, pz1⟩ := HA2.out.pos)
  refine bodyPost_ret (v := .tuple #[.agg #[.int .i64 ((p1 : Nat)), .int .i64 (v)], .bool (ok)]) ?_ rfl ⟨rfl, ?_⟩
  · rw [results_ct rfl]
    go_simp
  · exact (HA2.out.store _ _).1
theorem findAhead_any (F : Nat → Prop) (a : Option Addr) (n c l q : Nat) (t : Nat) (key cnt arg want : Int) (op : Bool) (L : List (List Int)) (w : World) (h : RdL F w a n c L) (hp : okP L (l, q)) (ht : (t : Int) ≤ 9223372036854775807) (ht1 : 1 ≤ t) (p1 p2 : Nat) (ok : Bool) (hpp : fndP l (nthB (lnL L l) arg q t) = (p1, p2)) (hok : (nthB (lnL L l) arg q t).isSome = ok) (hp2 : (p2 : Int) < 9223372036854775807) :
    Calls Try.prog 33 #[askL a n c l q (t : Nat) key cnt arg want op] w fun e w' => e = .returned (.tuple #[.agg #[.int .i64 (p1 : Nat), .int .i64 ((p2 : Nat))], .bool ok]) ∧ Below w.heap.size w w' := by
  obtain ⟨v, hv⟩ : ∃ v : Int, (p2 : Nat) = v := ⟨_, rfl⟩
  rw [hv]
  have HFI : Hid (∀ W, Below w.heap.size w W → Calls Try.prog 54 #[askL a n c l q (t : Nat) key cnt arg want op, Value.int .i64 (-1)] W fun e w' => e = .returned (.tuple #[.agg #[.int .i64 (p1 : Nat), .int .i64 v], .bool ok]) ∧ Below W.heap.size W w') := by
    intro W hW
    have := findB_any F a n c l q t key cnt arg want op L W (h.below hW) hp ht ht1
    rw [hpp, hok] at this
    rw [← hv]
    exact this
  clear h hp hpp hok hv
  obtain ⟨w1, hw1, ha1⟩ := lead_start w (askO a n c l q (t : Nat) key cnt arg want op)
  obtain ⟨x0, x1, x2, x3, x4, x5, x6, x7, x8⟩ := ha1.cells
  obtain ⟨pv0, pv1, pc0, pc1, pz0, pz1⟩ := ha1.pos
  have HW1 := Lib.hid hw1
  have HA1 := Lib.hid ha1
  clear hw1 ha1
  go_enter Try.func33, Try.ntmps33
  go_upto_region 1 with fail
  rw [HW1.out]
  go_wp2_with (go_at_call 54; refine (HFI.out _ HA1.out.1).mono ?_; rintro e w2 ⟨rfl, hb2⟩; have HA2 := Lib.hid (HA1.out.below hb2); obtain ⟨x0, x1, x2, x3, x4, x5, x6, x7, x8⟩ := HA2.out.cells; obtain ⟨pv0, pv1, pc0, pc1, pz0, pz1⟩ := HA2.out.pos)
  refine bodyPost_ret (v := .tuple #[.agg #[.int .i64 ((p1 : Nat)), .int .i64 (v)], .bool (ok)]) ?_ rfl ⟨rfl, ?_⟩
  · rw [results_ct rfl]
    go_simp
  · exact (HA2.out.store _ _).1
theorem tillBehind_any (F : Nat → Prop) (a : Option Addr) (n c l q : Nat) (t : Nat) (key cnt arg want : Int) (op : Bool) (L : List (List Int)) (w : World) (h : RdL F w a n c L) (hp : okP L (l, q)) (ht : (t : Int) ≤ 9223372036854775807) (ht1 : 1 ≤ t) (p1 p2 : Nat) (ok : Bool) (hpp : fndP l (nthF (lnL L l) arg q t) = (p1, p2)) (hok : (nthF (lnL L l) arg q t).isSome = ok) (hp2 : (p2 : Int) < 9223372036854775807) :
    Calls Try.prog 34 #[askL a n c l q (t : Nat) key cnt arg want op] w fun e w' => e = .returned (.tuple #[.agg #[.int .i64 (p1 : Nat), .int .i64 ((p2 : Int) - 1)], .bool ok]) ∧ Below w.heap.size w w' := by
  obtain ⟨v, hv⟩ : ∃ v : Int, (p2 : Int) - 1 = v := ⟨_, rfl⟩
  rw [hv]
  have HFI : Hid (∀ W, Below w.heap.size w W → Calls Try.prog 55 #[askL a n c l q (t : Nat) key cnt arg want op, Value.int .i64 (1)] W fun e w' => e = .returned (.tuple #[.agg #[.int .i64 (p1 : Nat), .int .i64 v], .bool ok]) ∧ Below W.heap.size W w') := by
    intro W hW
    rw [← hv]
    exact tillF_any F a n c l q t key cnt arg want op L W (h.below hW) hp ht ht1 p1 p2 ok hpp hok hp2
  clear h hp hpp hok hv
  obtain ⟨w1, hw1, ha1⟩ := lead_start w (askO a n c l q (t : Nat) key cnt arg want op)
  obtain ⟨x0, x1, x2, x3, x4, x5, x6, x7, x8⟩ := ha1.cells
  obtain ⟨pv0, pv1, pc0, pc1, pz0, pz1⟩ := ha1.pos
  have HW1 := Lib.hid hw1
  have HA1 := Lib.hid ha1
  clear hw1 ha1
  go_enter Try.func34, Try.ntmps34
  go_upto_region 1 with fail
  rw [HW1.out]
  go_wp2_with (go_at_call 55; refine (HFI.out _ HA1.out.1).mono ?_; rintro e w2 ⟨rfl, hb2⟩; have HA2 := Lib.hid (HA1.out.below hb2); obtain ⟨x0, x1, x2, x3, x4, x5, x6, x7, x8⟩ := HA2.out.cells; obtain ⟨pv0, pv1, pc0, pc1, pz0, pz1⟩ := HA2.out.pos)
  refine bodyPost_ret (v := .tuple #[.agg #[.int .i64 ((p1 : Nat)), .int .i64 (v)], .bool (ok)]) ?_ rfl ⟨rfl, ?_⟩
  · rw [results_ct rfl]
    go_simp
  · exact (HA2.out.store _ _).1
theorem tillAhead_any (F : Nat → Prop) (a : Option Addr) (n c l q : Nat) (t : Nat) (key cnt arg want : Int) (op : Bool) (L : List (List Int)) (w : World) (h : RdL F w a n c L) (hp : okP L (l, q)) (ht : (t : Int) ≤ 9223372036854775807) (ht1 : 1 ≤ t) (p1 p2 : Nat) (ok : Bool) (hpp : fndP l (nthB (lnL L l) arg q t) = (p1, p2)) (hok : (nthB (lnL L l) arg q t).isSome = ok) (hp2 : (p2 : Int) < 9223372036854775807) :
    Calls Try.prog 35 #[askL a n c l q (t : Nat) key cnt arg want op] w fun e w' => e = .returned (.tuple #[.agg #[.int .i64 (p1 : Nat), .int .i64 ((p2 : Int) + 1)], .bool ok]) ∧ Below w.heap.size w w' := by
  obtain ⟨v, hv⟩ : ∃ v : Int, (p2 : Int) + 1 = v := ⟨_, rfl⟩
  rw [hv]
  have HFI : Hid (∀ W, Below w.heap.size w W → Calls Try.prog 55 #[askL a n c l q (t : Nat) key cnt arg want op, Value.int .i64 (-1)] W fun e w' => e = .returned (.tuple #[.agg #[.int .i64 (p1 : Nat), .int .i64 v], .bool ok]) ∧ Below W.heap.size W w') := by
    intro W hW
    rw [← hv]
    exact tillB_any F a n c l q t key cnt arg want op L W (h.below hW) hp ht ht1 p1 p2 ok hpp hok hp2
  clear h hp hpp hok hv
  obtain ⟨w1, hw1, ha1⟩ := lead_start w (askO a n c l q (t : Nat) key cnt arg want op)
  obtain ⟨x0, x1, x2, x3, x4, x5, x6, x7, x8⟩ := ha1.cells
  obtain ⟨pv0, pv1, pc0, pc1, pz0, pz1⟩ := ha1.pos
  have HW1 := Lib.hid hw1
  have HA1 := Lib.hid ha1
  clear hw1 ha1
  go_enter Try.func35, Try.ntmps35
  go_upto_region 1 with fail
  rw [HW1.out]
  go_wp2_with (go_at_call 55; refine (HFI.out _ HA1.out.1).mono ?_; rintro e w2 ⟨rfl, hb2⟩; have HA2 := Lib.hid (HA1.out.below hb2); obtain ⟨x0, x1, x2, x3, x4, x5, x6, x7, x8⟩ := HA2.out.cells; obtain ⟨pv0, pv1, pc0, pc1, pz0, pz1⟩ := HA2.out.pos)
  refine bodyPost_ret (v := .tuple #[.agg #[.int .i64 ((p1 : Nat)), .int .i64 (v)], .bool (ok)]) ?_ rfl ⟨rfl, ?_⟩
  · rw [results_ct rfl]
    go_simp
  · exact (HA2.out.store _ _).1
end Go.Proofs.Ytikdojebnbmpoaa.U
