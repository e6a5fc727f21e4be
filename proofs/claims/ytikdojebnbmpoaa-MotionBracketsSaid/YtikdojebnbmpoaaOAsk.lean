/-
  What a motion is asked with, as the program has it; its leaf methods.
-/
import Derived.Test.YtikdojebnbmpoaaOMo
import Derived.Test.YtikdojebnbmpoaaNWordB
namespace Go.Proofs.Ytikdojebnbmpoaa.U
open Go.RowKit
set_option linter.unusedVariables false
set_option linter.unusedSimpArgs false
set_option maxRecDepth 100000

/-- lines, a cursor's place in them, how often, the motion, whether an operator asks -/
abbrev askL (a : Option Addr) (n c l q : Nat) (k key cnt arg want : Int) (op : Bool) : Value :=
  .agg #[.slice a n c, .int .i64 (l : Nat), .int .i64 (q : Nat), .int .i64 k, .int .i32 key, .int .i64 cnt, .int .i32 arg, .int .i64 want, .bool op]
abbrev askO (a : Option Addr) (n c l q : Nat) (k key cnt arg want : Int) (op : Bool) : Obj :=
  .cells #[.slice a n c, .int .i64 (l : Nat), .int .i64 (q : Nat), .int .i64 k, .int .i32 key, .int .i64 cnt, .int .i32 arg, .int .i64 want, .bool op] 40 (0, 0)
theorem row9 {w : World} {b : Nat} {ty : TypeId} {v0 v1 v2 v3 v4 v5 v6 v7 v8 : Value} (h : w.heap[b]? = some (.cells #[v0, v1, v2, v3, v4, v5, v6, v7, v8] ty (0, 0))) :
    w.cell? ⟨b, 0, none⟩ = some v0 ∧ w.cell? ⟨b, 1, none⟩ = some v1 ∧ w.cell? ⟨b, 2, none⟩ = some v2 ∧ w.cell? ⟨b, 3, none⟩ = some v3 ∧ w.cell? ⟨b, 4, none⟩ = some v4 ∧ w.cell? ⟨b, 5, none⟩ = some v5 ∧ w.cell? ⟨b, 6, none⟩ = some v6 ∧ w.cell? ⟨b, 7, none⟩ = some v7 ∧ w.cell? ⟨b, 8, none⟩ = some v8 :=
  ⟨by rw [cell_row h]; rfl, by rw [cell_row h]; rfl, by rw [cell_row h]; rfl, by rw [cell_row h]; rfl, by rw [cell_row h]; rfl, by rw [cell_row h]; rfl, by rw [cell_row h]; rfl, by rw [cell_row h]; rfl, by rw [cell_row h]; rfl⟩
/-- one box made, two boxes made -/
theorem one1 (w : World) (o1 : Obj) : ∃ w1, w.alloc o1 = w1 ∧ w1.heap.size = w.heap.size + 1 ∧ w1.heap[w.heap.size]? = some o1 ∧ Below w.heap.size w w1 :=
  ⟨_, rfl, by simp, heap_alloc_new w o1, bal w o1⟩
theorem two2 (w : World) (o1 o2 : Obj) : ∃ w1, (w.alloc o1).alloc o2 = w1 ∧ w1.heap.size = w.heap.size + 2 ∧ w1.heap[w.heap.size]? = some o1 ∧ w1.heap[w.heap.size + 1]? = some o2 ∧ Below w.heap.size w w1 := by
  have n1 := heap_alloc_new w o1
  have n2 := heap_alloc_new (w.alloc o1) o2
  simp only [World.size_alloc] at n2
  exact ⟨_, rfl, by simp, (Below.heap_alloc _ _ _ (by first | (simp; done) | (simp; omega))).trans n1, n2, ((Below.refl _ w).alloc (Nat.le_refl _) _).alloc (by simp) _⟩

theorem inline_any (a : Option Addr) (n c l q : Nat) (k key cnt arg want : Int) (op : Bool) (v : Int) (w : World) :
    Calls Try.prog 41 #[askL a n c l q k key cnt arg want op, .int .i64 v] w fun e w' => e = .returned (.agg #[.int .i64 (l : Nat), .int .i64 v]) ∧ Below w.heap.size w w' := by
  obtain ⟨w1, hw1, hsz, g1, g2, hb1⟩ := two2 w (askO a n c l q k key cnt arg want op) (.cells #[.int .i64 0, .int .i64 0] 24)
  obtain ⟨x0, x1, x2, x3, x4, x5, x6, x7, x8⟩ := row9 g1
  obtain ⟨a0, a1, z0, z1⟩ := row2 g2
  have HW1 := Lib.hid hw1
  have HB1 := Lib.hid hb1
  clear g1 g2 hw1 hb1
  go_enter Try.func41, Try.ntmps41
  go_upto_region 1 with fail
  rw [HW1.out]
  go_wp2
  refine bodyPost_ret (v := .agg #[.int .i64 (l : Nat), .int .i64 v]) ?_ rfl ⟨rfl, ?_⟩
  · rw [results_cell1 rfl]
    go_simp
  · (repeat' (first | exact HB1.out | omega | refine setCell_below ?_ _ _ _ ?_))
/-- the line at which it is asked -/
theorem here_any (F : Nat → Prop) (a : Option Addr) (n c l q : Nat) (k key cnt arg want : Int) (op : Bool) (L : List (List Int)) (x : List Int) (w : World) (h : RdL F w a n c L) (hx : L[l]? = some x) :
    ∃ ra rc, Rd .i32 w ra x.length rc x ∧ ∀ W, Below w.heap.size w W → Calls Try.prog 42 #[askL a n c l q k key cnt arg want op] W fun e w' => e = .returned (.slice ra x.length rc) ∧ Below W.heap.size W w' := by
  have hln : l < n := by rw [← h.len]; exact (List.getElem?_eq_some_iff.1 hx).1
  have hsm := h.small
  obtain ⟨b, off, ra, rc, rfl, hbl, -, e0, hrd, -, -⟩ := h.get (Below.refl _ w) hx
  refine ⟨ra, rc, hrd, fun W hW => ?_⟩
  obtain ⟨m, hm⟩ : ∃ m, x.length = m := ⟨_, rfl⟩
  rw [hm] at e0 ⊢
  obtain ⟨w1, hw1, hsz, g1, hb1⟩ := one1 W (askO (some ⟨b, off, none⟩) n c l q k key cnt arg want op)
  obtain ⟨x0, x1, x2, x3, x4, x5, x6, x7, x8⟩ := row9 g1
  have hbw := hW.size
  have e1 : w1.cell? ⟨b, off + l, none⟩ = some (.slice ra m rc) := (hb1.cell (p := ⟨b, off + l, none⟩) (by simp only; omega)).trans ((hW.cell (p := ⟨b, off + l, none⟩) hbl).trans e0)
  have s0 : ¬ (l : Int) < 0 := by omega
  have s1 : decide ((l : Int) < 0) = false := by simp
  have HW1 := Lib.hid hw1
  have HB1 := Lib.hid hb1
  clear g1 hw1 hb1 h hx hW e0 hrd hm
  go_enter Try.func42, Try.ntmps42
  go_upto_region 1 with fail
  rw [HW1.out]
  go_wp2
  go_ret
  exact ⟨rfl, HB1.out⟩
/-- so many lines down: there is such a line -/
theorem down_yes (a : Option Addr) (n c l q : Nat) (k key cnt arg want : Int) (op : Bool) (v : Nat) (w : World) (hn : n ≤ 9223372036854775807) (hv : l + v < n) :
    Calls Try.prog 44 #[askL a n c l q k key cnt arg want op, .int .i64 (v : Nat)] w fun e w' => e = .returned (.tuple #[.int .i64 ((l + v : Nat) : Int), .bool true]) ∧ Below w.heap.size w w' := by
  obtain ⟨t, ht⟩ : ∃ t, l + v = t := ⟨_, rfl⟩
  obtain ⟨d, hd⟩ : ∃ d, n - l = d := ⟨_, rfl⟩
  rw [ht]
  have s0 : (n : Int) - (l : Int) = (d : Int) := by omega
  have s1 : ¬ (d : Int) ≤ (v : Int) := by omega
  have s2 : decide ((d : Int) ≤ (v : Int)) = false := by simp; omega
  have s4 : ¬ d ≤ v := by omega
  have s5 : decide (d ≤ v) = false := by simp; omega
  have s3 : (l : Int) + (v : Int) = (t : Int) := by omega
  have s6 : (t : Int) ≤ 9223372036854775807 := by omega
  have s7 : (d : Int) ≤ 9223372036854775807 := by omega
  clear ht hd hv
  obtain ⟨w1, hw1, hsz, g1, hb1⟩ := one1 w (askO a n c l q k key cnt arg want op)
  obtain ⟨x0, x1, x2, x3, x4, x5, x6, x7, x8⟩ := row9 g1
  have HW1 := Lib.hid hw1
  have HB1 := Lib.hid hb1
  clear g1 hw1 hb1
  go_enter Try.func44, Try.ntmps44
  go_upto_region 1 with fail
  rw [HW1.out]
  go_wp2
  go_ret2
  exact ⟨rfl, HB1.out⟩
theorem down_no (a : Option Addr) (n c l q : Nat) (k key cnt arg want : Int) (op : Bool) (v : Nat) (w : World) (hn : n ≤ 9223372036854775807) (hl : l < n) (hv : ¬ l + v < n) :
    Calls Try.prog 44 #[askL a n c l q k key cnt arg want op, .int .i64 (v : Nat)] w fun e w' => e = .returned (.tuple #[.int .i64 0, .bool false]) ∧ Below w.heap.size w w' := by
  obtain ⟨d, hd⟩ : ∃ d, n - l = d := ⟨_, rfl⟩
  have s0 : (n : Int) - (l : Int) = (d : Int) := by omega
  have s1 : (d : Int) ≤ (v : Int) := by omega
  have s2 : decide ((d : Int) ≤ (v : Int)) = true := by simp; omega
  have s4 : d ≤ v := by omega
  have s5 : decide (d ≤ v) = true := by simp; omega
  have s7 : (d : Int) ≤ 9223372036854775807 := by omega
  clear hd hv
  obtain ⟨w1, hw1, hsz, g1, hb1⟩ := one1 w (askO a n c l q k key cnt arg want op)
  obtain ⟨x0, x1, x2, x3, x4, x5, x6, x7, x8⟩ := row9 g1
  have HW1 := Lib.hid hw1
  have HB1 := Lib.hid hb1
  clear g1 hw1 hb1
  go_enter Try.func44, Try.ntmps44
  go_upto_region 1 with fail
  rw [HW1.out]
  go_wp2
  go_ret2
  exact ⟨rfl, HB1.out⟩
theorem up_yes (a : Option Addr) (n c l q : Nat) (k key cnt arg want : Int) (op : Bool) (v : Nat) (w : World) (hn : l ≤ 9223372036854775807) (hv : v ≤ l) :
    Calls Try.prog 45 #[askL a n c l q k key cnt arg want op, .int .i64 (v : Nat)] w fun e w' => e = .returned (.tuple #[.int .i64 ((l - v : Nat) : Int), .bool true]) ∧ Below w.heap.size w w' := by
  obtain ⟨t, ht⟩ : ∃ t, l - v = t := ⟨_, rfl⟩
  rw [ht]
  have s1 : ¬ (l : Int) < (v : Int) := by omega
  have s2 : decide ((l : Int) < (v : Int)) = false := by simp; omega
  have s4 : ¬ l < v := by omega
  have s5 : decide (l < v) = false := by simp; omega
  have s3 : (l : Int) - (v : Int) = (t : Int) := by omega
  have s6 : (t : Int) ≤ 9223372036854775807 := by omega
  clear ht hv
  obtain ⟨w1, hw1, hsz, g1, hb1⟩ := one1 w (askO a n c l q k key cnt arg want op)
  obtain ⟨x0, x1, x2, x3, x4, x5, x6, x7, x8⟩ := row9 g1
  have HW1 := Lib.hid hw1
  have HB1 := Lib.hid hb1
  clear g1 hw1 hb1
  go_enter Try.func45, Try.ntmps45
  go_upto_region 1 with fail
  rw [HW1.out]
  go_wp2
  go_ret2
  exact ⟨rfl, HB1.out⟩
theorem up_no (a : Option Addr) (n c l q : Nat) (k key cnt arg want : Int) (op : Bool) (v : Nat) (w : World) (hn : l ≤ 9223372036854775807) (hv : ¬ v ≤ l) :
    Calls Try.prog 45 #[askL a n c l q k key cnt arg want op, .int .i64 (v : Nat)] w fun e w' => e = .returned (.tuple #[.int .i64 0, .bool false]) ∧ Below w.heap.size w w' := by
  have s1 : (l : Int) < (v : Int) := by omega
  have s2 : decide ((l : Int) < (v : Int)) = true := by simp; omega
  have s4 : l < v := by omega
  have s5 : decide (l < v) = true := by simp; omega
  clear hv
  obtain ⟨w1, hw1, hsz, g1, hb1⟩ := one1 w (askO a n c l q k key cnt arg want op)
  obtain ⟨x0, x1, x2, x3, x4, x5, x6, x7, x8⟩ := row9 g1
  have HW1 := Lib.hid hw1
  have HB1 := Lib.hid hb1
  clear g1 hw1 hb1
  go_enter Try.func45, Try.ntmps45
  go_upto_region 1 with fail
  rw [HW1.out]
  go_wp2
  go_ret2
  exact ⟨rfl, HB1.out⟩
end Go.Proofs.Ytikdojebnbmpoaa.U
