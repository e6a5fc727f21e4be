/-
  The program's small functions: the next rune, what is next, what is taken.
-/
import Derived.Test.YtkjiobbkbhmijaaRMem
namespace Go.Proofs.Ytkjiobbkbhmijaa.U
open Go.RowKit
set_option linter.unusedVariables false
set_option linter.unusedSimpArgs false
set_option maxRecDepth 100000

theorem next_any (br : Nat) (p l : List Int) (c : Int) (n o : Nat) (w : World) (h : RdS w br p (c :: l) n o) :
    Calls Try.prog 49 #[.pointer (some ⟨br, 0, none⟩)] w fun e w' => e = .returned (.int .i32 c) ∧ RdS w' br p l n o ∧ Fr (· = br) w w' := by
  have hlt := h.lt
  obtain ⟨a, cap, i, e0, e1, e2, e3, fz, hr, hin, hd, hi, hn, hp, ho⟩ := h.cells
  obtain ⟨hil, hc, hl⟩ := drop_cons hd
  obtain ⟨b, off, rfl, hbl, hcell⟩ := hr.at_ hil
  rw [hc] at hcell
  have hb : b < br := hin (by omega) _ rfl
  have hne : ¬ b = br := by omega
  have hne2 : ¬ br = b := by omega
  have f1 := fz 1
  obtain ⟨m, hm⟩ : ∃ m, p.length = m := ⟨_, rfl⟩
  rw [hm] at e0 hil hp
  obtain ⟨k, hk⟩ : ∃ k, i + 1 = k := ⟨_, rfl⟩
  have h1 : (i : Int) + 1 = (k : Int) := by omega
  have h2 : (k : Int) - 1 = (i : Int) := by omega
  have h3 : (i : Int) < (m : Int) := by omega
  have hs := h.setAt (Below.refl _ w) 1 (by simp) e1 (v := .int .i64 (k : Nat)) (by rw [← hk])
  have HS := Lib.hid hs
  have HL := Lib.hid hl
  have HK := Lib.hid hk
  clear h hr hin hd hc hl hm fz hk hs
  go_enter Try.func49, Try.ntmps49
  go_wp2
  go_quiet (fail)
  go_wp2
  go_ret
  first
    | exact ⟨rfl, HS.out.1, HS.out.2⟩
    | exact ⟨rfl, HS.out.1.drew _, Fr.trans HS.out.2 (Fr.of_below (fun _ => False) (bdrewN (Below.refl _ _) _)) (fun _ _ h => h.elim)⟩
theorem equal_same (a1 a2 : Option Addr) (len c1 c2 : Nat) (xs : List Int) (w : World) (h1 : Rd .i32 w a1 len c1 xs) (h2 : Rd .i32 w a2 len c2 xs) :
    Calls Try.prog 53 #[.slice a1 len c1, .slice a2 len c2] w fun e w' => e = .returned (.bool true) ∧ Below w.heap.size w w' := by
  have hsm := h1.small
  have heq : ((len : Int) != (len : Int)) = false := by simp
  by_cases h0 : len = 0
  · subst h0
    go_enter Try.func53, Try.ntmps53
    go_wp2_with fail
    go_loopw [13] (fun i wr => i = .int .i64 0 ∧ wr = w) (fun _ _ => 0)
    case atStart => exact ⟨rfl, rfl⟩
    case round =>
      obtain ⟨rfl, rfl⟩ := hrel
      go_wp2
      go_ret
      exact ⟨rfl, Below.refl _ _⟩
  · obtain ⟨p1, o1, rfl, hc1⟩ := h1.2.2.2.2.2 (by omega)
    obtain ⟨p2, o2, rfl, hc2⟩ := h2.2.2.2.2.2 (by omega)
    have hp1 := block_lt_of_cell (hc1 0 (by omega))
    have hp2 := block_lt_of_cell (hc2 0 (by omega))
    have HC1 := Lib.hid hc1; clear hc1
    have HC2 := Lib.hid hc2; clear hc2
    clear h1 h2
    go_enter Try.func53, Try.ntmps53
    go_wp2_with fail
    go_loopw [13] (fun i wr => ∃ k : Nat, k ≤ len ∧ i = .int .i64 k ∧ Below w.heap.size w wr) (fun i _ => len - (intOf i).toNat)
    case atStart => exact ⟨0, by omega, rfl, Below.refl _ _⟩
    case round =>
      obtain ⟨k, hk, rfl, hbl⟩ := hrel
      by_cases hlt : k < len
      · have e1 := (hbl.cell (p := ⟨p1, o1 + k, none⟩) hp1).trans (HC1.out k hlt)
        have e2 := (hbl.cell (p := ⟨p2, o2 + k, none⟩) hp2).trans (HC2.out k hlt)
        obtain ⟨x, hx⟩ : ∃ x, xs.getD k 0 = x := ⟨_, rfl⟩
        rw [hx] at e1 e2
        clear hx
        have hxx : (x != x) = false := by simp
        go_wp2_with fail
        go_quiet (fail)
        go_wp2_with fail
        go_roundw
        case rel => exact ⟨k + 1, by omega, by go_num, bdrewN hbl _⟩
        case measure => simp [intOf]; omega
      · obtain rfl : k = len := by omega
        go_wp2
        go_ret
        exact ⟨rfl, hbl⟩
theorem equal_eqlen (a1 a2 : Option Addr) (len c1 c2 : Nat) (xs ys : List Int) (w : World) (h1 : Rd .i32 w a1 len c1 xs) (h2 : Rd .i32 w a2 len c2 ys) :
    Calls Try.prog 53 #[.slice a1 len c1, .slice a2 len c2] w fun e w' => e = .returned (.bool (decide (xs = ys))) ∧ Below w.heap.size w w' := by
  have hsm := h1.small
  have hl1 := h1.1
  have hl2 := h2.1
  have heq : ((len : Int) != (len : Int)) = false := by simp
  by_cases h0 : len = 0
  · subst h0
    have e1 : xs = [] := List.eq_nil_of_length_eq_zero hl1
    have e2 : ys = [] := List.eq_nil_of_length_eq_zero hl2
    subst e1 e2
    exact equal_same a1 a2 0 c1 c2 [] w h1 h2
  · obtain ⟨p1, o1, rfl, hc1⟩ := h1.2.2.2.2.2 (by omega)
    obtain ⟨p2, o2, rfl, hc2⟩ := h2.2.2.2.2.2 (by omega)
    have hp1 := block_lt_of_cell (hc1 0 (by omega))
    have hp2 := block_lt_of_cell (hc2 0 (by omega))
    have HC1 := Lib.hid hc1; clear hc1
    have HC2 := Lib.hid hc2; clear hc2
    have HL1 := Lib.hid hl1; clear hl1
    have HL2 := Lib.hid hl2; clear hl2
    clear h1 h2
    go_enter Try.func53, Try.ntmps53
    go_wp2_with fail
    go_loopw [13] (fun i wr => ∃ k : Nat, k ≤ len ∧ i = .int .i64 k ∧ Hid (xs.take k = ys.take k) ∧ Below w.heap.size w wr) (fun i _ => len - (intOf i).toNat)
    case atStart => exact ⟨0, by omega, rfl, rfl, Below.refl _ _⟩
    case round =>
      obtain ⟨k, hk, rfl, hsame, hbl⟩ := hrel
      by_cases hlt : k < len
      · have e1 := (hbl.cell (p := ⟨p1, o1 + k, none⟩) hp1).trans (HC1.out k hlt)
        have e2 := (hbl.cell (p := ⟨p2, o2 + k, none⟩) hp2).trans (HC2.out k hlt)
        have hkx : k < xs.length := by have := HL1.out; omega
        have hky : k < ys.length := by have := HL2.out; omega
        obtain ⟨x, hx⟩ : ∃ x, xs[k]? = some x := ⟨_, List.getElem?_eq_getElem hkx⟩
        obtain ⟨y, hy⟩ : ∃ y, ys[k]? = some y := ⟨_, List.getElem?_eq_getElem hky⟩
        rw [List.getD_eq_getElem?_getD, hx, Option.getD_some] at e1
        rw [List.getD_eq_getElem?_getD, hy, Option.getD_some] at e2
        by_cases hxy : x = y
        · subst hxy
          have hxx : (x != x) = false := by simp
          have HN : Hid (xs.take (k + 1) = ys.take (k + 1)) := by
            have q1 := (List.getElem?_eq_some_iff.1 hx).2
            have q2 := (List.getElem?_eq_some_iff.1 hy).2
            show _ = _
            rw [List.take_succ_eq_append_getElem hkx, List.take_succ_eq_append_getElem hky, q1, q2, hsame.out]
          clear hx hy hsame
          go_wp2_with fail
          go_quiet (fail)
          go_wp2_with fail
          go_roundw
          case rel => exact ⟨k + 1, by omega, by go_num, HN, bdrewN hbl _⟩
          case measure => simp [intOf]; omega
        · have hxx : (x != y) = true := by simpa using hxy
          have HF : Hid (decide (xs = ys) = false) := by
            rw [Hid, decide_eq_false_iff_not]
            intro e
            rw [e, hy] at hx
            injection hx with hx
            exact hxy hx.symm
          clear hx hy hsame
          go_wp2_with fail
          go_quiet (fail)
          go_wp2_with fail
          go_ret
          exact ⟨by rw [HF.out]; rfl, bdrewN hbl _⟩
      · obtain rfl : k = len := by omega
        have HF : Hid (decide (xs = ys) = true) := by
          have := hsame.out
          rw [List.take_of_length_le (by have := HL1.out; omega), List.take_of_length_le (by have := HL2.out; omega)] at this
          rw [Hid, decide_eq_true_eq]
          exact this
        clear hsame
        go_wp2
        go_ret
        exact ⟨by rw [HF.out]; rfl, hbl⟩
theorem equal_any (a1 a2 : Option Addr) (n1 n2 c1 c2 : Nat) (xs ys : List Int) (w : World) (h1 : Rd .i32 w a1 n1 c1 xs) (h2 : Rd .i32 w a2 n2 c2 ys) :
    Calls Try.prog 53 #[.slice a1 n1 c1, .slice a2 n2 c2] w fun e w' => e = .returned (.bool (decide (xs = ys))) ∧ Below w.heap.size w w' := by
  by_cases hn : n1 = n2
  · subst hn; exact equal_eqlen a1 a2 n1 c1 c2 xs ys w h1 h2
  · have hne : ((n1 : Int) != (n2 : Int)) = true := by simp; omega
    have hf : decide (xs = ys) = false := by
      rw [decide_eq_false_iff_not]
      intro e
      have := congrArg List.length e
      have := h1.1
      have := h2.1
      omega
    have s1 := h1.small
    have s2 := h2.small
    rw [hf]
    clear h1 h2 hf
    go_enter Try.func53, Try.ntmps53
    go_wp2_with fail
    go_ret
    exact ⟨rfl, Below.refl _ _⟩

theorem pre_eq (s l : List Int) : pre s l = (decide (s.length ≤ l.length) && decide (l.take s.length = s)) := by
  unfold pre
  rw [Bool.eq_iff_iff, List.isPrefixOf_iff_prefix, List.prefix_iff_eq_take]
  simp only [Bool.and_eq_true, decide_eq_true_eq]
  constructor
  · intro h
    refine ⟨?_, h.symm⟩
    have := congrArg List.length h
    rw [List.length_take] at this
    omega
  · exact fun h => h.2.symm
end Go.Proofs.Ytkjiobbkbhmijaa.U
