/-
  The document's There.
-/
import Derived.Test.YtndlebopfojjeaaTRefN
import Derived.BigQuiet
namespace Go.Proofs.Ytndlebopfojjeaa.U
open Go.RowKit
set_option linter.unusedVariables false
set_option linter.unusedSimpArgs false
set_option maxRecDepth 100000

set_option maxHeartbeats 4000000 in
theorem rthere_any (F : Nat → Prop) (a : Option Addr) (n c : Nat) (L : List (List Int)) (i d : Int) (w : World) (h : RdL F w a n c L) (hi : i64b i) (hd : i64b d) :
    Calls Try.prog 38 #[.slice a n c, .agg #[.int .i64 i, .int .i64 d]] w fun e w' => e = .returned (.bool (hasP L i d)) ∧ Below w.heap.size w w' := by
  have hl := h.len
  have hsm := h.small
  obtain ⟨g, hgs⟩ : ∃ g, w.heap.size = g := ⟨_, rfl⟩
  obtain ⟨wb, hwb⟩ : ∃ wb, w.alloc (.cells #[.int .i64 i, .int .i64 d] 30) = wb := ⟨_, rfl⟩
  have hB : Below g w wb := by rw [← hwb]; exact (Below.refl _ _).alloc (by omega) _
  have hg : wb.heap[g]? = some (.cells #[.int .i64 i, .int .i64 d] 30 (0, 0)) := by rw [← hwb, ← hgs]; exact heap_alloc_new w _
  have a0 := cell_row hg 0
  have a1 := cell_row hg 1
  have lg := heap_lt hg
  have HWB := Lib.hid hwb
  have HBg := Lib.hid hB
  have HB : Hid (Below w.heap.size w wb) := by show Below _ _ _; rw [hgs]; exact hB
  have hh : hasP L i d = (decide (0 ≤ i) && (decide (i < n) && (decide (0 ≤ d) && decide (d ≤ (L.getD i.toNat []).length)))) := by unfold hasP; rw [hl]
  rw [hh]
  have H := Lib.hid h
  have HLL := Lib.hid hl
  clear hwb hg hB h hh hl
  by_cases h1 : 0 ≤ i
  · have d1 : decide (0 ≤ i) = true := by simpa using h1
    by_cases h2 : i < n
    · have d2 : decide (i < (n : Int)) = true := by simpa using h2
      by_cases h3 : 0 ≤ d
      · have d3 : decide (0 ≤ d) = true := by simpa using h3
        obtain ⟨k, rfl⟩ : ∃ k : Nat, i = k := ⟨i.toNat, by omega⟩
        obtain ⟨x, hx⟩ : ∃ x, L[k]? = some x := ⟨_, List.getElem?_eq_getElem (by have := HLL.out; omega)⟩
        obtain ⟨b, off, ra, rc, rfl, hb, _, hc, _, _⟩ := H.out.get (by have := HB.out; exact this) hx
        have hbw : b < wb.heap.size := by have := HB.out.size; omega
        rw [d1, d2, d3, Int.toNat_natCast, List.getD_eq_getElem?_getD, hx, Option.getD_some]
        simp only [Bool.true_and]
        obtain ⟨y, hy⟩ : ∃ y, x.length = y := ⟨_, rfl⟩
        rw [hy] at hc ⊢
        have h2' : k < n := by omega
        clear hx hy H HLL
        by_cases h4 : d ≤ (y : Int)
        · have d4 : decide (d ≤ (y : Int)) = true := by simpa using h4
          rw [d4]
          go_enter Try.func38, Try.ntmps38
          go_upto_region 1 with fail
          (try rw [hgs]); (try rw [HWB.out])
          go_quiet (fail)
          go_wp2_with fail
          go_ret
          first | exact ⟨rfl, bdrewN HB.out _⟩ | exact ⟨rfl, bdrewN HBg.out _⟩
        · have d4 : decide (d ≤ (y : Int)) = false := by simpa using h4
          rw [d4]
          go_enter Try.func38, Try.ntmps38
          go_upto_region 1 with fail
          (try rw [hgs]); (try rw [HWB.out])
          go_quiet (fail)
          go_wp2_with fail
          go_ret
          first | exact ⟨rfl, bdrewN HB.out _⟩ | exact ⟨rfl, bdrewN HBg.out _⟩
      · have d3 : decide (0 ≤ d) = false := by simpa using h3
        rw [d1, d2, d3]
        clear H HLL
        go_enter Try.func38, Try.ntmps38
        go_upto_region 1 with fail
        (try rw [hgs]); (try rw [HWB.out])
        go_quiet (fail)
        go_wp2_with fail
        go_ret
        first | exact ⟨rfl, bdrewN HB.out _⟩ | exact ⟨rfl, bdrewN HBg.out _⟩
    · have d2 : decide (i < (n : Int)) = false := by simpa using h2
      rw [d1, d2]
      clear H HLL
      go_enter Try.func38, Try.ntmps38
      go_upto_region 1 with fail
      (try rw [hgs]); (try rw [HWB.out])
      go_quiet (fail)
      go_wp2_with fail
      go_ret
      first | exact ⟨rfl, bdrewN HB.out _⟩ | exact ⟨rfl, bdrewN HBg.out _⟩
  · have d1 : decide (0 ≤ i) = false := by simpa using h1
    rw [d1]
    clear H HLL
    go_enter Try.func38, Try.ntmps38
    go_upto_region 1 with fail
    (try rw [hgs]); (try rw [HWB.out])
    go_quiet (fail)
    go_wp2_with fail
    go_ret
    first | exact ⟨rfl, bdrewN HB.out _⟩ | exact ⟨rfl, bdrewN HBg.out _⟩
end Go.Proofs.Ytndlebopfojjeaa.U
