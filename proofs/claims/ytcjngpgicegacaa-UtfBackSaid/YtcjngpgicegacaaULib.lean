/-
  Contracts of the library's functions that layer 1 calls: slices.Grow, slices.Concat (of two), slices.Repeat (of one element), math/bits.Mul.
-/
import Derived.Test.YtcjngpgicegacaaUEnc
import Derived.Lib.AppendZeros
import Derived.Deep.QuietTactic
import Derived.BigQuiet
import Derived.RegionTactic
namespace Go.Proofs.Ytcjngpgicegacaa.U
open Go.RowKit
set_option linter.unusedVariables false
set_option linter.unusedSimpArgs false

theorem grow_0 (w : World) :
    Calls Try.prog 36 #[.slice none 0 0, .int .i64 0] w fun e w' => e = .returned (.slice none 0 0) ∧ w = w' := by
  go_enter Try.func36, Try.ntmps36
  go_wp2
  go_ret
  exact ⟨rfl, rfl⟩

theorem grow_pos (n : Nat) (w : World) (h0 : 0 < n) (hn : n ≤ 140737488355328) :
    Calls Try.prog 36 #[.slice none 0 0, .int .i64 n] w fun e w' => ∃ v, e = .returned v ∧ w'.ownsRow w.heap.size 5 1 v 0 [] ∧ Below w.heap.size w w' := by
  obtain ⟨i0, hi, hz0, hz1, hz2⟩ := info_parts infoB
  have hpos : (0 : Int) < n := by omega
  have hrun := Lib.run_append_nil_zeros (P := Try.prog) w 22 3 22 5 i0 (.int .u8 0) .i64 .i64 Try.underlying22 Try.underlying3 hi hz0 n h0 (by rw [hz1]; decide) (by omega) (by rw [hz2]; omega)
  have HR := Lib.hid hrun; clear hrun
  go_enter Try.func36, Try.ntmps36
  go_wp2_with (at_builtin; go_must (refine Lib.wpList_append_run _ rfl _ _ _ _ rfl _ _ rfl rfl _ _ HR.out ?_))
  go_ret
  refine ⟨_, rfl, World.ownsRow_made w.drew _ _ (Nat.le_refl _) (grownCap_le_maxLen _ _ _ _ (by unfold maxLen; omega)) ?_, ((Below.refl _ _).drew.alloc (by simp) _)⟩
  have hge := grownCap_ge w n 0 5
  simp only [Array.size_append, size_zeroCells]
  have h1 : (#[Value.int .u8 0] : Array Value).size = 1 := rfl
  simp only [Value.cells, h1]; omega

theorem wrap_u64m (n : Int) : IntKind.u64.wrap n = n % 18446744073709551616 := by simp [IntKind.wrap, IntKind.bits, IntKind.signed]
theorem u64_mask32 (x : Int) (h0 : 0 ≤ x) (h1 : x < 4294967296) : bits .and .u64 x 4294967295 = x := by
  have h := bits_mask .u64 32 (by decide) (fun n a b => by rw [wrap_u64m]; omega) 32 (by decide) x h0 (by omega)
  have e : (2 : Int) ^ 32 - 1 = 4294967295 := by decide
  rw [e] at h
  rw [h]; omega
theorem mul_1 (n : Nat) (w : World) (hn : n ≤ 1073741824) :
    Calls Try.prog 37 #[.int .u64 1, .int .u64 n] w fun e w' => e = .returned (.tuple #[.int .u64 0, .int .u64 n]) ∧ w = w' := by
  have e1 : bits .and .u64 1 4294967295 = 1 := by decide
  have e2 : bits .and .u64 n 4294967295 = n := u64_mask32 n (by omega) (by omega)
  have e3 : bits .and .u64 0 4294967295 = 0 := by decide
  have d1 : (n : Int) / 4294967296 = 0 := by omega
  have h1 : IntKind.u64.wrap (n : Int) = n := by rw [wrap_u64m]; omega
  have h0 : IntKind.u64.wrap 0 = 0 := by decide
  go_enter Try.func37, Try.ntmps37
  go_wp2
  go_ret2
  exact ⟨rfl, rfl⟩

theorem grow_any (z : Int) (n : Nat) (w : World) (hz : z = n) (hn : n ≤ 140737488355328) :
    Calls Try.prog 36 #[.slice none 0 0, .int .i64 z] w fun e w' => ∃ v, e = .returned v ∧ w'.ownsRow w.heap.size 5 1 v 0 [] ∧ Below w.heap.size w w' := by
  subst hz
  by_cases h0 : n = 0
  · subst h0
    exact (grow_0 w).mono fun e w' ⟨h1, h2⟩ => ⟨_, h1, by subst h2; exact World.ownsRow_nil _ _ _ _, by subst h2; exact Below.refl _ _⟩
  · exact grow_pos n w (by omega) hn

/-- Concat of two slices of bytes. -/
theorem concat_2 (bp : Nat) (a1 a2 : Option Addr) (n1 c1 n2 c2 : Nat) (xs ys : List Int) (w : World)
    (hp0 : w.cell? ⟨bp, 0, none⟩ = some (.slice a1 n1 c1)) (hp1 : w.cell? ⟨bp, 1, none⟩ = some (.slice a2 n2 c2))
    (h1 : Rd .u8 w a1 n1 c1 xs) (h2 : Rd .u8 w a2 n2 c2 ys) (hbig : n1 + n2 ≤ 140737488355328) :
    Calls Try.prog 31 #[.slice (some ⟨bp, 0, none⟩) 2 2] w fun e w' => ∃ v, e = .returned v ∧
      w'.ownsRow w.heap.size 5 1 v (n1 + n2) ((xs ++ ys).map (Value.int .u8)) ∧ Below w.heap.size w w' := by
  obtain ⟨i0, hi, hz0, hz1, hz2⟩ := info_parts infoB
  have hbp : bp < w.heap.size := block_lt_of_cell hp0
  go_enter Try.func31, Try.ntmps31
  go_wp2_with fail
  go_loop [3, 11] (fun s i => ∃ k : Nat, k ≤ 2 ∧ i = .int .i64 k ∧ s = .int .i64 (if k = 0 then 0 else if k = 1 then n1 else n1 + n2)) (fun _ i => 2 - (intOf i).toNat)
  case atStart => exact ⟨0, by omega, rfl, rfl⟩
  case round =>
    obtain ⟨k, hk, rfl, rfl⟩ := hrel
    by_cases k0 : k = 0
    · subst k0
      go_wp2_with fail
      go_round
      case rel => exact ⟨1, by omega, rfl, rfl⟩
      case measure => simp [intOf]
    by_cases k1 : k = 1
    · subst k1
      go_wp2_with fail
      go_round
      case rel => exact ⟨2, by omega, rfl, rfl⟩
      case measure => simp [intOf]
    · obtain rfl : k = 2 := by omega
      clear k0 k1
      go_wp2_with fail
      refine (grow_any _ (n1 + n2) _ (by simp) hbig).mono ?_
      rintro e w1 ⟨v1, rfl, hown1, hb1⟩
      have hB := hb1.size
      go_wp2_with fail
      go_loopw [6, 27] (fun v i wr => ∃ k : Nat, k ≤ 2 ∧ i = .int .i64 k ∧ Hid (wr.ownsRow w.heap.size 5 1 v (if k = 0 then 0 else if k = 1 then n1 else n1 + n2) (if k = 0 then [] else if k = 1 then xs.map (Value.int .u8) else (xs ++ ys).map (Value.int .u8))) ∧ Below w.heap.size w wr) (fun _ i _ => 2 - (intOf i).toNat)
      case atStart => exact ⟨0, by omega, rfl, hown1, hb1⟩
      case round =>
        obtain ⟨k, hk, rfl, ho, hbl⟩ := hrel
        have hp0' := (hbl.cell (p := ⟨bp, 0, none⟩) hbp).trans hp0
        have hp1' := (hbl.cell (p := ⟨bp, 1, none⟩) hbp).trans hp1
        have H1 := Lib.hid (h1.below hbl)
        have H2 := Lib.hid (h2.below hbl)
        have hsz := hbl.size
        by_cases k0 : k = 0
        · subst k0
          have ho' := ho.out
          simp only [↓reduceIte] at ho'
          clear ho
          go_wp2_with (at_builtin; go_must (refine wpList_appRd rfl _ _ 22 rfl w.heap.size 5 i0 (.int .u8 0) 1 Try.underlying22 hi hz0 hz1 hz2 rfl _ _ _ rfl ho' .u8 _ _ _ xs rfl H1.out ?d1 ?d2 ?d3 ?_))
          case d1 => unfold maxLen; omega
          case d2 => omega
          case d3 => omega
          intro v2 w2 ho2 hb2
          go_wp2
          go_roundw
          case rel => exact ⟨1, by omega, rfl, (by show World.ownsRow _ _ _ _ _ _ _; simpa using ho2), hbl.trans hb2⟩
          case measure => simp [intOf]
        by_cases k1 : k = 1
        · subst k1
          have ho' := ho.out
          simp only [↓reduceIte, Nat.one_ne_zero] at ho'
          clear ho
          go_wp2_with (at_builtin; go_must (refine wpList_appRd rfl _ _ 22 rfl w.heap.size 5 i0 (.int .u8 0) 1 Try.underlying22 hi hz0 hz1 hz2 rfl _ _ _ rfl ho' .u8 _ _ _ ys rfl H2.out ?d1 ?d2 ?d3 ?_))
          case d1 => unfold maxLen; omega
          case d2 => omega
          case d3 => omega
          intro v2 w2 ho2 hb2
          go_wp2
          go_roundw
          case rel => exact ⟨2, by omega, rfl, (by show World.ownsRow _ _ _ _ _ _ _; simpa using ho2), hbl.trans hb2⟩
          case measure => simp [intOf]
        · obtain rfl : k = 2 := by omega
          clear k0 k1
          have ho' := ho.out
          simp only [↓reduceIte, show ¬ (2 = 0) from by decide, show ¬ (2 = 1) from by decide] at ho'
          clear ho
          go_wp2
          go_ret
          exact ⟨_, rfl, ho', hbl⟩

end Go.Proofs.Ytcjngpgicegacaa.U
