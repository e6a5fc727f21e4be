/-
  Contracts of what slices.Repeat and the tests of runes call: math/bits.Mul; the document's Runes.
-/
import Derived.Test.YthceooehndiglaaDoorCLeaf
import Derived.Deep.QuietTactic
import Derived.BigQuiet
import Derived.RegionTactic
namespace Go.Proofs.YthceooehndiglaaDoor.U
open Go.RowKit
set_option linter.unusedVariables false
set_option linter.unusedSimpArgs false

theorem infoR : (Tryd.prog.info? 21).map (fun i => (i.zero, i.size, i.bytes)) = some (some (.int .i32 0), 1, 4) := by kernel_rfl

theorem wrap_u64m (n : Int) : IntKind.u64.wrap n = n % 18446744073709551616 := by simp [IntKind.wrap, IntKind.bits, IntKind.signed]
theorem u64_mask32 (x : Int) (h0 : 0 ≤ x) (h1 : x < 4294967296) : bits .and .u64 x 4294967295 = x := by
  have h := bits_mask .u64 32 (by decide) (fun n a b => by rw [wrap_u64m]; omega) 32 (by decide) x h0 (by omega)
  have e : (2 : Int) ^ 32 - 1 = 4294967295 := by decide
  rw [e] at h
  rw [h]; omega
theorem mul_1 (n : Nat) (w : World) (hn : n ≤ 1073741824) :
    Calls Tryd.prog 37 #[.int .u64 1, .int .u64 n] w fun e w' => e = .returned (.tuple #[.int .u64 0, .int .u64 n]) ∧ w = w' := by
  have e1 : bits .and .u64 1 4294967295 = 1 := by decide
  have e2 : bits .and .u64 n 4294967295 = n := u64_mask32 n (by omega) (by omega)
  have e3 : bits .and .u64 0 4294967295 = 0 := by decide
  have d1 : (n : Int) / 4294967296 = 0 := by omega
  have h1 : IntKind.u64.wrap (n : Int) = n := by rw [wrap_u64m]; omega
  have h0 : IntKind.u64.wrap 0 = 0 := by decide
  go_enter Tryd.func37, Tryd.ntmps37
  go_wp2
  go_ret2
  exact ⟨rfl, rfl⟩

theorem runes_same (a1 a2 : Option Addr) (len c1 c2 : Nat) (xs : List Int) (w : World) (h1 : Rd .i32 w a1 len c1 xs) (h2 : Rd .i32 w a2 len c2 xs) :
    Calls Tryd.prog 12 #[.slice a1 len c1, .slice a2 len c2] w fun e w' => e = .returned (.bool true) ∧ Below w.heap.size w w' := by
  have hsm := h1.small
  have heq : ((len : Int) != (len : Int)) = false := by simp
  by_cases h0 : len = 0
  · subst h0
    go_enter Tryd.func12, Tryd.ntmps12
    go_wp2_with fail
    go_loopw [5] (fun i wr => i = .int .i64 0 ∧ wr = w) (fun _ _ => 0)
    case atStart => exact ⟨rfl, rfl⟩
    case round =>
      obtain ⟨rfl, rfl⟩ := hrel
      go_wp2
      go_ret
      exact ⟨rfl, Below.refl _ _⟩
  · obtain ⟨p1, o1, rfl, hc1⟩ := h1.2.2.2.2.2 (by omega)
    obtain ⟨p2, o2, rfl, hc2⟩ := h2.2.2.2.2.2 (by omega)
    have hp1 := block_lt_of_cell (hc1 0 (by omega))
    have hp2 := block_lt_of_cell (hc2 0 (by omega))
    have HC1 := Lib.hid hc1; clear hc1
    have HC2 := Lib.hid hc2; clear hc2
    clear h1 h2
    go_enter Tryd.func12, Tryd.ntmps12
    go_wp2_with fail
    go_loopw [5] (fun i wr => ∃ k : Nat, k ≤ len ∧ i = .int .i64 k ∧ Below w.heap.size w wr) (fun i _ => len - (intOf i).toNat)
    case atStart => exact ⟨0, by omega, rfl, Below.refl _ _⟩
    case round =>
      obtain ⟨k, hk, rfl, hbl⟩ := hrel
      by_cases hlt : k < len
      · have e1 := (hbl.cell (p := ⟨p1, o1 + k, none⟩) hp1).trans (HC1.out k hlt)
        have e2 := (hbl.cell (p := ⟨p2, o2 + k, none⟩) hp2).trans (HC2.out k hlt)
        obtain ⟨x, hx⟩ : ∃ x, xs.getD k 0 = x := ⟨_, rfl⟩
        rw [hx] at e1 e2
        clear hx
        have hxx : (x != x) = false := by simp
        go_wp2_with fail
        go_quiet (fail)
        go_wp2_with fail
        go_roundw
        case rel => exact ⟨k + 1, by omega, by go_num, bdrewN hbl _⟩
        case measure => simp [intOf]; omega
      · obtain rfl : k = len := by omega
        go_wp2
        go_ret
        exact ⟨rfl, hbl⟩
/-- A slice whose values have just been laid. -/
theorem Rd_new (k : IntKind) (w : World) (xs : List Int) (cs : Array Value) (e : TypeId) (n : Nat) (hc : cs = (xs.map (Value.int k)).toArray) (hn : xs.length = n) (hm : n ≤ maxLen) (hw : ∀ x ∈ xs, (Lit.int k x).wf = true) :
    Rd k (w.alloc (.cells cs e)) (some ⟨w.heap.size, 0, none⟩) n n xs := by
  subst hc
  refine ⟨hn, Nat.le_refl _, hm, hw, (fun h => by cases h), fun _ => ⟨_, 0, rfl, fun i hi => ?_⟩⟩
  rw [cell_of_row _ _ _ _ _ _ (heap_alloc_new w _), Nat.zero_add]
  simp only [List.getElem?_toArray, List.getElem?_map]
  rw [List.getElem?_eq_getElem (by omega), List.getD_eq_getElem?_getD, List.getElem?_eq_getElem (by omega)]
  rfl

end Go.Proofs.YthceooehndiglaaDoor.U
