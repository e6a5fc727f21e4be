/-
  Rows of runes: append, literals, two rows held against each other. No word of a law or of a document's answer but inkhornref01.Runes.
-/
import Derived.Test.YtndlebopfojjeaaPSlc
namespace Go.Proofs.Ytndlebopfojjeaa.U
open Go.RowKit
set_option linter.unusedVariables false
set_option linter.unusedSimpArgs false
set_option maxRecDepth 100000

def ints (xs : List Int) : List Value := xs.map (Value.int .i32)

/-- append of what can be read onto what was made since block B -/
theorem app_rd (w : World) (B : Nat) (v : Value) (n : Nat) (xs : List Int) (a : Option Addr) (m c : Nat) (ys : List Int) (h : w.ownsRow B 21 1 v n (ints xs)) (hB : B ≤ w.heap.size) (hr : Rd .i32 w a m c ys) (hb : n + m ≤ 17592186044416) :
    ∃ a' c' w', (∀ ty, (Builtin.append_ #[31, 31] ty #[v, .slice a m c]).run Try.prog w = .ok (.slice a' (n + m) c') w') ∧ w'.ownsRow B 21 1 (.slice a' (n + m) c') (n + m) (ints (xs ++ ys)) ∧ Below B w w' := by
  obtain ⟨i0, hi0, hz0, hz1, hz2⟩ := info_parts infoI
  obtain ⟨v', w', hrun, hown, hfr, hnear⟩ := run_append_own_k (P := Try.prog) w B 31 21 i0 _ 1 4 Try.underlying31 hi0 hz0 hz1 hz2 rfl (by decide) v n _ h a m c (ints ys) (by simpa [ints] using hr.1) (fun hp => Rd_cells hr hp) (ints1 _ _) (by unfold maxLen; omega) (by omega) hB
  obtain ⟨a', c', rfl⟩ := own_slice hown
  refine ⟨a', c', w', hrun, ?_, hfr.below hB (fun k e => (h.lt k e.symm).1)⟩
  unfold ints at hown ⊢
  rw [List.map_append]
  exact hown

/-- append of what can be read onto a fresh empty row -/
theorem app_lit (w : World) (a : Option Addr) (m c : Nat) (ys : List Int) (hr : Rd .i32 w a m c ys) (hb : m ≤ 17592186044416) :
    ∃ a' c' w', (∀ ty, (Builtin.append_ #[31, 31] ty #[.slice (some ⟨w.heap.size, 0, none⟩) 0 0, .slice a m c]).run Try.prog (w.alloc (.cells #[] 21)) = .ok (.slice a' m c') w') ∧ w'.ownsRow w.heap.size 21 1 (.slice a' m c') m (ints ys) ∧ Below w.heap.size w w' := by
  have hb0 : Below w.heap.size w (w.alloc (.cells #[] 21)) := (Below.refl _ w).alloc (Nat.le_refl _) _
  obtain ⟨a', c', w', hrun, ho, hb'⟩ := app_rd (w.alloc (.cells #[] 21)) w.heap.size (.slice (some ⟨w.heap.size, 0, none⟩) 0 0) 0 [] a m c ys (World.ownsRow_lit w #[] 0 (Nat.le_refl _) (Nat.zero_le _) rfl) (by simp) (hr.below hb0) (by omega)
  rw [Nat.zero_add] at hrun ho
  exact ⟨a', c', w', hrun, by simpa using ho, hb0.trans hb'⟩

theorem Rd_new (k : IntKind) (w : World) (xs : List Int) (cs : Array Value) (e : TypeId) (n : Nat) (hc : cs = (xs.map (Value.int k)).toArray) (hn : xs.length = n) (hm : n ≤ maxLen) (hw : ∀ x ∈ xs, (Lit.int k x).wf = true) :
    Rd k (w.alloc (.cells cs e)) (some ⟨w.heap.size, 0, none⟩) n n xs := by
  subst hc
  refine ⟨hn, Nat.le_refl _, hm, hw, (fun h => by cases h), fun _ => ⟨_, 0, rfl, fun i hi => ?_⟩⟩
  rw [cell_of_row _ _ _ _ _ _ (heap_alloc_new w _), Nat.zero_add]
  simp only [List.getElem?_toArray, List.getElem?_map]
  rw [List.getElem?_eq_getElem (by omega), List.getD_eq_getElem?_getD, List.getElem?_eq_getElem (by omega)]
  rfl
theorem runes_same (a1 a2 : Option Addr) (len c1 c2 : Nat) (xs : List Int) (w : World) (h1 : Rd .i32 w a1 len c1 xs) (h2 : Rd .i32 w a2 len c2 xs) :
    Calls Try.prog 16 #[.slice a1 len c1, .slice a2 len c2] w fun e w' => e = .returned (.bool true) ∧ Below w.heap.size w w' := by
  have hsm := h1.small
  have heq : ((len : Int) != (len : Int)) = false := by simp
  by_cases h0 : len = 0
  · subst h0
    go_enter Try.func16, Try.ntmps16
    go_wp2_with fail
    go_loopw [5] (fun i wr => i = .int .i64 0 ∧ wr = w) (fun _ _ => 0)
    case atStart => exact ⟨rfl, rfl⟩
    case round =>
      obtain ⟨rfl, rfl⟩ := hrel
      go_wp2
      go_ret
      exact ⟨rfl, Below.refl _ _⟩
  · obtain ⟨p1, o1, rfl, hc1⟩ := h1.2.2.2.2.2 (by omega)
    obtain ⟨p2, o2, rfl, hc2⟩ := h2.2.2.2.2.2 (by omega)
    have hp1 := block_lt_of_cell (hc1 0 (by omega))
    have hp2 := block_lt_of_cell (hc2 0 (by omega))
    have HC1 := Lib.hid hc1; clear hc1
    have HC2 := Lib.hid hc2; clear hc2
    clear h1 h2
    go_enter Try.func16, Try.ntmps16
    go_wp2_with fail
    go_loopw [5] (fun i wr => ∃ k : Nat, k ≤ len ∧ i = .int .i64 k ∧ Below w.heap.size w wr) (fun i _ => len - (intOf i).toNat)
    case atStart => exact ⟨0, by omega, rfl, Below.refl _ _⟩
    case round =>
      obtain ⟨k, hk, rfl, hbl⟩ := hrel
      by_cases hlt : k < len
      · have e1 := (hbl.cell (p := ⟨p1, o1 + k, none⟩) hp1).trans (HC1.out k hlt)
        have e2 := (hbl.cell (p := ⟨p2, o2 + k, none⟩) hp2).trans (HC2.out k hlt)
        obtain ⟨x, hx⟩ : ∃ x, xs.getD k 0 = x := ⟨_, rfl⟩
        rw [hx] at e1 e2
        clear hx
        have hxx : (x != x) = false := by simp
        go_wp2_with fail
        go_quiet (fail)
        go_wp2_with fail
        go_roundw
        case rel => exact ⟨k + 1, by omega, by go_num, bdrewN hbl _⟩
        case measure => simp [intOf]; omega
      · obtain rfl : k = len := by omega
        go_wp2
        go_ret
        exact ⟨rfl, hbl⟩

theorem infoSl : (Try.prog.info? 31).map (fun i => (i.zero, i.size, i.bytes)) = some (some (.slice none 0 0), 1, 24) := by kernel_rfl

theorem own_rd {w : World} {B : Nat} {a : Option Addr} {n c : Nat} {xs : List Int} (h : w.ownsRow B 21 1 (.slice a n c) n (ints xs)) (hw : ∀ x ∈ xs, (Lit.int .i32 x).wf = true) : Rd .i32 w a n c xs := Rd.own (k := .i32) h hw

end Go.Proofs.Ytndlebopfojjeaa.U
