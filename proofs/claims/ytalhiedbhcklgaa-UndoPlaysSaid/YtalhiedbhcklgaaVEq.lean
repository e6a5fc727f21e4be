/-
  slices.Equal of runes, slices.EqualFunc of lines.
-/
import Derived.Test.YtalhiedbhcklgaaVTurn
namespace Go.Proofs.Ytalhiedbhcklgaa.U
open Go.RowKit
set_option linter.unusedVariables false
set_option linter.unusedSimpArgs false
set_option maxRecDepth 100000

theorem eq_eqlen (a1 a2 : Option Addr) (len c1 c2 : Nat) (xs ys : List Int) (w : World) (h1 : Rd .i32 w a1 len c1 xs) (h2 : Rd .i32 w a2 len c2 ys) :
    Calls Try.prog 50 #[.slice a1 len c1, .slice a2 len c2] w fun e w' => e = .returned (.bool (decide (xs = ys))) ∧ Below w.heap.size w w' := by
  have hsm := h1.small
  have heq : ((len : Int) != (len : Int)) = false := by simp
  have hl1 := h1.1
  have hl2 := h2.1
  by_cases h0 : len = 0
  · subst h0
    have e1 : xs = [] := List.eq_nil_of_length_eq_zero hl1
    have e2 : ys = [] := List.eq_nil_of_length_eq_zero hl2
    subst e1 e2
    clear h1 h2 hl1 hl2
    go_enter Try.func50, Try.ntmps50
    go_wp2_with fail
    go_loopw [13] (fun i wr => i = .int .i64 0 ∧ wr = w) (fun _ _ => 0)
    case atStart => exact ⟨rfl, rfl⟩
    case round =>
      obtain ⟨rfl, rfl⟩ := hrel
      go_wp2
      go_ret
      exact ⟨rfl, Below.refl _ _⟩
  · obtain ⟨p1, o1, rfl, hc1⟩ := h1.2.2.2.2.2 (by omega)
    obtain ⟨p2, o2, rfl, hc2⟩ := h2.2.2.2.2.2 (by omega)
    have hp1 := block_lt_of_cell (hc1 0 (by omega))
    have hp2 := block_lt_of_cell (hc2 0 (by omega))
    have HC1 := Lib.hid hc1; clear hc1
    have HC2 := Lib.hid hc2; clear hc2
    have HL1 := Lib.hid hl1; clear hl1
    have HL2 := Lib.hid hl2; clear hl2
    clear h1 h2
    go_enter Try.func50, Try.ntmps50
    go_wp2_with fail
    go_loopw [13] (fun i wr => ∃ k : Nat, k ≤ len ∧ i = .int .i64 k ∧ Hid (xs.take k = ys.take k) ∧ Below w.heap.size w wr) (fun i _ => len - (intOf i).toNat)
    case atStart => exact ⟨0, by omega, rfl, rfl, Below.refl _ _⟩
    case round =>
      obtain ⟨k, hk, rfl, hsame, hbl⟩ := hrel
      by_cases hlt : k < len
      · have e1 := (hbl.cell (p := ⟨p1, o1 + k, none⟩) hp1).trans (HC1.out k hlt)
        have e2 := (hbl.cell (p := ⟨p2, o2 + k, none⟩) hp2).trans (HC2.out k hlt)
        have hkx : k < xs.length := by have := HL1.out; omega
        have hky : k < ys.length := by have := HL2.out; omega
        obtain ⟨x, hx⟩ : ∃ x, xs[k]? = some x := ⟨_, List.getElem?_eq_getElem hkx⟩
        obtain ⟨y, hy⟩ : ∃ y, ys[k]? = some y := ⟨_, List.getElem?_eq_getElem hky⟩
        rw [List.getD_eq_getElem?_getD, hx, Option.getD_some] at e1
        rw [List.getD_eq_getElem?_getD, hy, Option.getD_some] at e2
        by_cases hxy : x = y
        · subst hxy
          have hxx : (x != x) = false := by simp
          have HN : Hid (xs.take (k + 1) = ys.take (k + 1)) := by
            have q1 := (List.getElem?_eq_some_iff.1 hx).2
            have q2 := (List.getElem?_eq_some_iff.1 hy).2
            show _ = _
            rw [List.take_succ_eq_append_getElem hkx, List.take_succ_eq_append_getElem hky, q1, q2, hsame.out]
          clear hx hy hsame
          go_wp2_with fail
          go_quiet (fail)
          go_wp2_with fail
          go_roundw
          case rel => exact ⟨k + 1, by omega, by go_num, HN, bdrewN hbl _⟩
          case measure => simp [intOf]; omega
        · have hxx : (x != y) = true := by simpa using hxy
          have HF : Hid (decide (xs = ys) = false) := by
            rw [Hid, decide_eq_false_iff_not]
            intro e
            rw [e, hy] at hx
            injection hx with hx
            exact hxy hx.symm
          clear hx hy hsame
          go_wp2_with fail
          go_quiet (fail)
          go_wp2_with fail
          go_ret
          exact ⟨by rw [HF.out]; rfl, bdrewN hbl _⟩
      · obtain rfl : k = len := by omega
        have HF : Hid (decide (xs = ys) = true) := by
          have := hsame.out
          rw [List.take_of_length_le (by have := HL1.out; omega), List.take_of_length_le (by have := HL2.out; omega)] at this
          rw [Hid, decide_eq_true_eq]
          exact this
        clear hsame
        go_wp2
        go_ret
        exact ⟨by rw [HF.out]; rfl, hbl⟩
theorem eq_any (a1 a2 : Option Addr) (n1 n2 c1 c2 : Nat) (xs ys : List Int) (w : World) (h1 : Rd .i32 w a1 n1 c1 xs) (h2 : Rd .i32 w a2 n2 c2 ys) :
    Calls Try.prog 50 #[.slice a1 n1 c1, .slice a2 n2 c2] w fun e w' => e = .returned (.bool (decide (xs = ys))) ∧ Below w.heap.size w w' := by
  by_cases hn : n1 = n2
  · subst hn; exact eq_eqlen a1 a2 n1 c1 c2 xs ys w h1 h2
  · have hne : ((n1 : Int) != (n2 : Int)) = true := by simp; omega
    have hf : decide (xs = ys) = false := by
      rw [decide_eq_false_iff_not]
      intro e
      have := congrArg List.length e
      have := h1.1
      have := h2.1
      omega
    have s1 := h1.small
    have s2 := h2.small
    rw [hf]
    clear h1 h2 hf
    go_enter Try.func50, Try.ntmps50
    go_wp2_with fail
    go_ret
    exact ⟨rfl, Below.refl _ _⟩

set_option maxHeartbeats 4000000 in
theorem equalFunc_any (F G : Nat → Prop) (a1 a2 : Option Addr) (n1 n2 c1 c2 : Nat) (L M : List (List Int)) (w : World) (h1 : RdL F w a1 n1 c1 L) (h2 : RdL G w a2 n2 c2 M) :
    Calls Try.prog 49 #[.slice a1 n1 c1, .slice a2 n2 c2, .func (.func 50) #[] #[]] w fun e w' => e = .returned (.bool (decide (L = M))) ∧ Below w.heap.size w w' := by
  have s1 := h1.small
  have s2 := h2.small
  by_cases hn : n1 = n2
  · subst hn
    have hne : ((n1 : Int) != (n1 : Int)) = false := by simp
    have HL1 := Lib.hid h1.len
    have HL2 := Lib.hid h2.len
    have H1 := Lib.hid h1
    have H2 := Lib.hid h2
    clear h1 h2
    go_enter Try.func49, Try.ntmps49
    go_wp2_with fail
    go_loopw [17] (fun i wr => ∃ k : Nat, k ≤ n1 ∧ i = .int .i64 k ∧ Hid (L.take k = M.take k) ∧ Hid (Below w.heap.size w wr)) (fun i _ => n1 - (intOf i).toNat)
    case atStart => exact ⟨0, by omega, rfl, rfl, Below.refl _ _⟩
    case round =>
      obtain ⟨k, hk, rfl, hsame, hbl⟩ := hrel
      by_cases hlt : k < n1
      · have hkx : k < L.length := by have := HL1.out; omega
        have hky : k < M.length := by have := HL2.out; omega
        obtain ⟨x, hx⟩ : ∃ x, L[k]? = some x := ⟨_, List.getElem?_eq_getElem hkx⟩
        obtain ⟨y, hy⟩ : ∃ y, M[k]? = some y := ⟨_, List.getElem?_eq_getElem hky⟩
        obtain ⟨b1, o1, r1, d1, rfl, hb1, _, e1, q1, _⟩ := H1.out.get hbl.out hx
        obtain ⟨b2, o2, r2, d2, rfl, hb2, _, e2, q2, _⟩ := H2.out.get hbl.out hy
        have HR := Lib.hid (eq_any r1 r2 x.length y.length d1 d2 x y wr q1 q2)
        have hw1 : b1 < wr.heap.size := by have := hbl.out.size; omega
        have hw2 : b2 < wr.heap.size := by have := hbl.out.size; omega
        obtain ⟨nx, hnx⟩ : ∃ nx, x.length = nx := ⟨_, rfl⟩
        obtain ⟨ny, hny⟩ : ∃ ny, y.length = ny := ⟨_, rfl⟩
        rw [hnx, hny] at HR
        rw [hnx] at e1
        rw [hny] at e2
        by_cases hxy : x = y
        · have hd : decide (x = y) = true := by simpa using hxy
          rw [hd] at HR
          have HN : Hid (L.take (k + 1) = M.take (k + 1)) := by
            have q1 := (List.getElem?_eq_some_iff.1 hx).2
            have q2 := (List.getElem?_eq_some_iff.1 hy).2
            show _ = _
            rw [List.take_succ_eq_append_getElem hkx, List.take_succ_eq_append_getElem hky, q1, q2, hsame.out, hxy]
          clear hx hy hsame q1 q2 hnx hny hd hxy
          go_wp2_with (go_at_call 50; refine HR.out.mono ?_; rintro e w1 ⟨rfl, hb⟩)
          go_roundw
          case rel => exact ⟨k + 1, by omega, by go_num, HN, hbl.out.trans (hb.mono hbl.out.size)⟩
          case measure => simp [intOf]; omega
        · have hd : decide (x = y) = false := by simpa using hxy
          rw [hd] at HR
          have HF : Hid (decide (L = M) = false) := by
            rw [Hid, decide_eq_false_iff_not]
            intro e
            rw [e, hy] at hx
            injection hx with hx
            exact hxy hx.symm
          clear hx hy hsame q1 q2 hnx hny hd hxy
          go_wp2_with (go_at_call 50; refine HR.out.mono ?_; rintro e w1 ⟨rfl, hb⟩)
          go_ret
          exact ⟨by rw [HF.out]; rfl, hbl.out.trans (hb.mono hbl.out.size)⟩
      · obtain rfl : k = n1 := by omega
        have HF : Hid (decide (L = M) = true) := by
          have := hsame.out
          rw [List.take_of_length_le (by have := HL1.out; omega), List.take_of_length_le (by have := HL2.out; omega)] at this
          rw [Hid, decide_eq_true_eq]
          exact this
        clear hsame
        go_wp2_with fail
        go_ret
        exact ⟨by rw [HF.out]; rfl, hbl.out⟩
  · have hne : ((n1 : Int) != (n2 : Int)) = true := by simp; omega
    have hf : decide (L = M) = false := by
      rw [decide_eq_false_iff_not]
      intro e
      have := congrArg List.length e
      have := h1.len
      have := h2.len
      omega
    rw [hf]
    clear h1 h2 hf
    go_enter Try.func49, Try.ntmps49
    go_wp2_with fail
    go_ret
    exact ⟨rfl, Below.refl _ _⟩
end Go.Proofs.Ytalhiedbhcklgaa.U
