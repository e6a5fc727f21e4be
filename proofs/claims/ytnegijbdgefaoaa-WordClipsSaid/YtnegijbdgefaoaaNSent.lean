/-
  The document's blank, stop, Sentence. (MADE by wip/tools/gen_sent.py.)
-/
import Derived.Test.YtnegijbdgefaoaaNBeg
namespace Go.Proofs.Ytnegijbdgefaoaa.U
open Go.RowKit
set_option linter.unusedVariables false
set_option linter.unusedSimpArgs false
set_option maxRecDepth 100000

theorem drop_blank {x : List Int} {i : Nat} (hi : i < x.length) : blankL (x.drop i) = ((cls false (x.getD i 0) == 0) && blankL (x.drop (i + 1))) := by
  rw [blankL, blankL, List.drop_eq_getElem_cons hi, List.all_cons, List.getD_eq_getElem?_getD, List.getElem?_eq_getElem hi]
  rfl
set_option maxHeartbeats 1000000 in
theorem rblank_any (a : Option Addr) (m c : Nat) (x : List Int) (w : World) (h : Rd .i32 w a m c x) :
    Calls Try.prog 58 #[.slice a m c] w fun e w' => e = .returned (.bool (blankL x)) ∧ w = w' := by
  have hl := h.len
  have hsm := h.small
  obtain ⟨r, hr⟩ : ∃ r, blankL x = r := ⟨_, rfl⟩
  rw [hr]
  have HR := Lib.hid hr
  have HD := Lib.hid h
  have HL := Lib.hid hl
  clear h hl hr
  go_enter Try.func58, Try.ntmps58
  go_wp2_with fail
  go_loopw [3] (fun iv wr => ∃ i : Nat, i ≤ m ∧ iv = .int .i64 (i : Nat) ∧ wr = w ∧ Hid (blankL (x.drop i) = r)) (fun iv _ => m - (intOf iv).toNat)
  case atStart => exact ⟨0, by omega, rfl, rfl, HR.out⟩
  case round =>
    obtain ⟨i, hi, rfl, rfl, HI⟩ := hrel
    by_cases hlt : i < m
    · obtain ⟨b, off, rfl, hbl, c0⟩ := HD.out.at_ hlt
      have hdb := drop_blank (x := x) (i := i) (by have := HL.out; omega)
      obtain ⟨r0, hr0⟩ : ∃ r0, x.getD i 0 = r0 := ⟨_, rfl⟩
      rw [hr0] at c0 hdb
      obtain ⟨k0, hk0⟩ : ∃ k0, cls false r0 = k0 := ⟨_, rfl⟩
      rw [hk0] at hdb
      have HK := Lib.hid hk0
      by_cases hz : k0 = 0
      · have n0 : (k0 != 0) = false := by simp [hz]
        have HN : Hid (blankL (x.drop (i + 1)) = r) := by
          show _ = _
          rw [← HI.out, hdb, hz]; rfl
        clear hdb hr0 hk0 hz
        go_wp2_with (go_at_call 14; refine (rclass_any _ _ _).mono ?_; rintro e w' ⟨rfl, hw⟩; subst hw; rw [HK.out])
        go_roundw
        case rel => exact ⟨i + 1, by omega, by go_num, by first | rfl | trivial, HN⟩
        case measure => simp [intOf]; omega
      · have n0 : (k0 != 0) = true := by simp [hz]
        have hrf : r = false := by
          rw [← HI.out, hdb]
          simp [hz]
        clear hdb hr0 hk0 hz
        subst hrf
        go_wp2_with (go_at_call 14; refine (rclass_any _ _ _).mono ?_; rintro e w' ⟨rfl, hw⟩; subst hw; rw [HK.out])
        go_ret
        exact ⟨rfl, rfl⟩
    · obtain rfl : i = m := by omega
      have hrt : r = true := by
        rw [← HI.out, List.drop_eq_nil_of_le (by have := HL.out; omega)]; rfl
      subst hrt
      go_wp2
      go_ret
      exact ⟨rfl, rfl⟩

set_option maxHeartbeats 1000000 in
theorem rstop_any (a : Option Addr) (m c : Nat) (x : List Int) (col : Nat) (w : World) (h : Rd .i32 w a m c x) (hcol : col ≤ m) :
    Calls Try.prog 57 #[.slice a m c, .int .i64 (col : Nat)] w fun e w' => e = .returned (.bool (stopB x col)) ∧ w = w' := by
  have hsm := h.small
  obtain ⟨r, hr⟩ : ∃ r, stopB x col = r := ⟨_, rfl⟩
  rw [hr]
  have HD := Lib.hid h
  have HST : Hid (∃ t : Int, (col : Int) - 1 = t ∧ ((t = -1 ∧ stopB x 0 = r) ∨ ∃ k : Nat, k < m ∧ t = (k : Nat) ∧ stopB x (k + 1) = r)) := by
    refine ⟨_, rfl, ?_⟩
    by_cases h0 : col = 0
    · subst h0; exact Or.inl ⟨by simp, hr⟩
    · refine Or.inr ⟨col - 1, by omega, by omega, ?_⟩
      rw [show col - 1 + 1 = col by omega]; exact hr
  clear h hr
  obtain ⟨t, ht, hst⟩ := HST.out
  have hcm : (col : Int) ≤ 9223372036854775807 := by omega
  have HS0 := Lib.hid hst
  clear hst HST
  go_enter Try.func57, Try.ntmps57
  go_wp2_with fail
  go_loopw [5] (fun iv wr => ∃ t : Int, iv = .int .i64 t ∧ wr = w ∧ Hid ((t = -1 ∧ stopB x 0 = r) ∨ ∃ k : Nat, k < m ∧ t = (k : Nat) ∧ stopB x (k + 1) = r)) (fun iv _ => (intOf iv + 1).toNat)
  case atStart => exact ⟨_, rfl, rfl, HS0.out⟩
  case round =>
    obtain ⟨t, rfl, rfl, HT⟩ := hrel
    clear HS0 ht hcm
    rcases HT.out with ⟨rfl, hs⟩ | ⟨k, hk, rfl, hs⟩
    · have hrf : r = false := by rw [← hs]; rfl
      subst hrf
      clear hs
      go_wp2
      go_ret
      exact ⟨rfl, rfl⟩
    · obtain ⟨b, off, rfl, hbl, c0⟩ := HD.out.at_ hk
      rw [stopB] at hs
      obtain ⟨c1, hc1⟩ : ∃ c1, x.getD k 0 = c1 := ⟨_, rfl⟩
      rw [hc1] at c0 hs
      have gk : (0 : Int) ≤ (k : Int) := by omega
      clear hc1
      by_cases h41 : c1 = 41
      · have hcl : closer c1 = true := by simp [closer, h41]
        have e41 : (c1 == 41) = true := by simp [h41]
        rw [hcl, if_pos rfl] at hs
        have HN : Hid (((k : Int) - 1 = -1 ∧ stopB x 0 = r) ∨ ∃ k' : Nat, k' < m ∧ (k : Int) - 1 = (k' : Nat) ∧ stopB x (k' + 1) = r) := by
          by_cases h0 : k = 0
          · subst h0; exact Or.inl ⟨by simp, hs⟩
          · exact Or.inr ⟨k - 1, by omega, by omega, by rw [show k - 1 + 1 = k by omega]; exact hs⟩
        clear hs hcl h41
        go_wp2
        go_roundw
        case rel => exact ⟨_, rfl, by first | rfl | trivial, HN.out⟩
        case measure => first | (simp [intOf]; omega) | simp [intOf]
      by_cases h93 : c1 = 93
      · have hcl : closer c1 = true := by simp [closer, h93]
        have e41 : (c1 == 41) = false := by simp [h41]
        have e93 : (c1 == 93) = true := by simp [h93]
        rw [hcl, if_pos rfl] at hs
        have HN : Hid (((k : Int) - 1 = -1 ∧ stopB x 0 = r) ∨ ∃ k' : Nat, k' < m ∧ (k : Int) - 1 = (k' : Nat) ∧ stopB x (k' + 1) = r) := by
          by_cases h0 : k = 0
          · subst h0; exact Or.inl ⟨by simp, hs⟩
          · exact Or.inr ⟨k - 1, by omega, by omega, by rw [show k - 1 + 1 = k by omega]; exact hs⟩
        clear hs hcl h41 h93
        go_wp2
        go_roundw
        case rel => exact ⟨_, rfl, by first | rfl | trivial, HN.out⟩
        case measure => first | (simp [intOf]; omega) | simp [intOf]
      by_cases h34 : c1 = 34
      · have hcl : closer c1 = true := by simp [closer, h34]
        have e41 : (c1 == 41) = false := by simp [h41]
        have e93 : (c1 == 93) = false := by simp [h93]
        have e34 : (c1 == 34) = true := by simp [h34]
        rw [hcl, if_pos rfl] at hs
        have HN : Hid (((k : Int) - 1 = -1 ∧ stopB x 0 = r) ∨ ∃ k' : Nat, k' < m ∧ (k : Int) - 1 = (k' : Nat) ∧ stopB x (k' + 1) = r) := by
          by_cases h0 : k = 0
          · subst h0; exact Or.inl ⟨by simp, hs⟩
          · exact Or.inr ⟨k - 1, by omega, by omega, by rw [show k - 1 + 1 = k by omega]; exact hs⟩
        clear hs hcl h41 h93 h34
        go_wp2
        go_roundw
        case rel => exact ⟨_, rfl, by first | rfl | trivial, HN.out⟩
        case measure => first | (simp [intOf]; omega) | simp [intOf]
      by_cases h39 : c1 = 39
      · have hcl : closer c1 = true := by simp [closer, h39]
        have e41 : (c1 == 41) = false := by simp [h41]
        have e93 : (c1 == 93) = false := by simp [h93]
        have e34 : (c1 == 34) = false := by simp [h34]
        have e39 : (c1 == 39) = true := by simp [h39]
        rw [hcl, if_pos rfl] at hs
        have HN : Hid (((k : Int) - 1 = -1 ∧ stopB x 0 = r) ∨ ∃ k' : Nat, k' < m ∧ (k : Int) - 1 = (k' : Nat) ∧ stopB x (k' + 1) = r) := by
          by_cases h0 : k = 0
          · subst h0; exact Or.inl ⟨by simp, hs⟩
          · exact Or.inr ⟨k - 1, by omega, by omega, by rw [show k - 1 + 1 = k by omega]; exact hs⟩
        clear hs hcl h41 h93 h34 h39
        go_wp2
        go_roundw
        case rel => exact ⟨_, rfl, by first | rfl | trivial, HN.out⟩
        case measure => first | (simp [intOf]; omega) | simp [intOf]
      have hcl : closer c1 = false := by simp [closer, h41, h93, h34, h39]
      rw [hcl, if_neg (by simp)] at hs
      have e41 : (c1 == 41) = false := by simp [h41]
      have e93 : (c1 == 93) = false := by simp [h93]
      have e34 : (c1 == 34) = false := by simp [h34]
      have e39 : (c1 == 39) = false := by simp [h39]
      clear hcl h41 h93 h34 h39
      by_cases h46 : c1 = 46
      · have hst : r = true := by rw [← hs]; simp [stopper, h46]
        have e46 : (c1 == 46) = true := by simp [h46]
        subst hst
        clear hs h46
        go_wp2
        go_ret
        exact ⟨rfl, rfl⟩
      by_cases h33 : c1 = 33
      · have hst : r = true := by rw [← hs]; simp [stopper, h33]
        have e46 : (c1 == 46) = false := by simp [h46]
        have e33 : (c1 == 33) = true := by simp [h33]
        subst hst
        clear hs h46 h33
        go_wp2
        go_ret
        exact ⟨rfl, rfl⟩
      by_cases h63 : c1 = 63
      · have hst : r = true := by rw [← hs]; simp [stopper, h63]
        have e46 : (c1 == 46) = false := by simp [h46]
        have e33 : (c1 == 33) = false := by simp [h33]
        have e63 : (c1 == 63) = true := by simp [h63]
        subst hst
        clear hs h46 h33 h63
        go_wp2
        go_ret
        exact ⟨rfl, rfl⟩
      have hst : r = false := by rw [← hs]; simp [stopper, h46, h33, h63]
      have e46 : (c1 == 46) = false := by simp [h46]
      have e33 : (c1 == 33) = false := by simp [h33]
      have e63 : (c1 == 63) = false := by simp [h63]
      subst hst
      clear hs h46 h33 h63
      go_wp2
      go_ret
      exact ⟨rfl, rfl⟩
end Go.Proofs.Ytnegijbdgefaoaa.U
