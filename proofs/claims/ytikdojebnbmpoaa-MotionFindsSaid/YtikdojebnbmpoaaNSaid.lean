/-
  The program's withoutBlanks, endsSentence, mayFollow. (MADE by wip/tools/gen_said.py.)
-/
import Derived.Test.YtikdojebnbmpoaaNWordB
namespace Go.Proofs.Ytikdojebnbmpoaa.U
open Go.RowKit
set_option linter.unusedVariables false
set_option linter.unusedSimpArgs false
set_option maxRecDepth 100000

def lenV : Value → Nat
  | .slice _ n _ => n
  | _ => 0
theorem blank_zero (x : List Int) : blankL x = decide (backB x x.length = 0) := by
  cases h : blankL x with
  | false => have := blank_back h; simp; omega
  | true =>
    have hall : ∀ k, k ≤ x.length → backB x k = 0 := by
      intro k
      induction k with
      | zero => intro _; rfl
      | succ k ih =>
        intro hk
        have hm : x[k]'(by omega) ∈ x := List.getElem_mem _
        have h1 := List.all_eq_true.1 h _ hm
        rw [backB, if_pos]
        · exact ih (by omega)
        · rw [List.getD_eq_getElem?_getD, List.getElem?_eq_getElem (by omega)]
          simpa using h1
    rw [hall _ (Nat.le_refl _)]; rfl
set_option maxHeartbeats 1000000 in
theorem wtrim_eq (a : Option Addr) (m c : Nat) (x : List Int) (k : Nat) (w : World) (h : Rd .i32 w a m c x) (hk : k ≤ m) :
    Calls Try.prog 83 #[.slice a k c] w fun e w' => e = .returned (.slice a (backB x k) c) ∧ w = w' := by
  have hsm := h.small
  have hmc : m ≤ c := h.2.1
  have hcs : c ≤ 9223372036854775807 := by have := h.2.2.1; unfold maxLen at this; omega
  obtain ⟨t, ht⟩ : ∃ t, backB x k = t := ⟨_, rfl⟩
  rw [ht]
  have HD := Lib.hid h
  have HT0 := Lib.hid ht
  clear h ht
  go_enter Try.func83, Try.ntmps83
  go_wp2_with fail
  go_loopw [0] (fun v0 wr => ∃ k : Nat, v0 = .slice a k c ∧ k ≤ m ∧ wr = w ∧ Hid (backB x k = t)) (fun v0 _ => lenV v0)
  case atStart => exact ⟨k, rfl, hk, rfl, HT0.out⟩
  case round =>
    obtain ⟨k, rfl, hkm, rfl, HT⟩ := hrel
    clear HT0 hk
    by_cases h0 : k = 0
    · subst h0
      have ht : t = 0 := by rw [← HT.out]; rfl
      subst ht
      go_wp2
      go_ret
      exact ⟨rfl, rfl⟩
    · obtain ⟨j, rfl⟩ : ∃ j, k = j + 1 := ⟨k - 1, by omega⟩
      obtain ⟨b, off, rfl, hbl, c0⟩ := HD.out.at_ (i := j) (by omega)
      have hs := HT.out
      rw [backB] at hs
      obtain ⟨r0, hr0⟩ : ∃ r, x.getD j 0 = r := ⟨_, rfl⟩
      rw [hr0] at c0 hs
      obtain ⟨k1, hk1⟩ : ∃ k1, j + 1 = k1 := ⟨_, rfl⟩
      rw [hk1] at hs ⊢
      have s1 : (k1 : Int) - 1 = (j : Int) := by omega
      have g0 : (0 : Int) < (k1 : Int) := by omega
      have g1 : 0 < k1 := by omega
      have g2 : j < k1 := by omega
      have g3 : k1 ≤ c := by omega
      have g4 : (k1 : Int) ≤ 9223372036854775807 := by omega
      have d0 : decide ((0 : Int) < (k1 : Int)) = true := by simp; omega
      have HS := Lib.hid hs
      have HJ : Hid (j ≤ m ∧ j < k1) := ⟨by omega, by omega⟩
      clear hr0 HT hs h0 hk1
      cases hbb : blankB r0 with
      | true =>
        have H := Lib.hid (fun W => (wblank_eq r0 W))
        rw [hbb] at H
        have HN : Hid (backB x j = t) := by
          have := HS.out
          rwa [if_pos (by simpa [blankB] using hbb)] at this
        clear hbb HS
        go_wp2_with (go_at_call 82; refine (H.out _).mono ?_; rintro e w' ⟨rfl, hw⟩; subst hw)
        go_roundw
        case rel => exact ⟨j, rfl, HJ.out.1, by first | rfl | trivial, HN.out⟩
        case measure => simp [lenV]; exact HJ.out.2
      | false =>
        have H := Lib.hid (fun W => (wblank_eq r0 W))
        rw [hbb] at H
        have ht : k1 = t := by
          have := HS.out
          rwa [if_neg (by simpa [blankB] using hbb)] at this
        clear hbb HS
        subst ht
        go_wp2_with (go_at_call 82; refine (H.out _).mono ?_; rintro e w' ⟨rfl, hw⟩; subst hw)
        go_ret
        exact ⟨rfl, rfl⟩

set_option maxHeartbeats 1000000 in
theorem wsaid_eq (a : Option Addr) (m c : Nat) (x : List Int) (col : Nat) (w : World) (h : Rd .i32 w a m c x) (hcol : col ≤ m) :
    Calls Try.prog 85 #[.slice a col c] w fun e w' => e = .returned (.bool (stopB x col)) ∧ w = w' := by
  have hsm := h.small
  obtain ⟨r, hr⟩ : ∃ r, stopB x col = r := ⟨_, rfl⟩
  rw [hr]
  have HD := Lib.hid h
  have HST : Hid (∃ t : Int, (col : Int) - 1 = t ∧ ((t = -1 ∧ stopB x 0 = r) ∨ ∃ k : Nat, k < col ∧ t = (k : Nat) ∧ stopB x (k + 1) = r)) := by
    refine ⟨_, rfl, ?_⟩
    by_cases h0 : col = 0
    · subst h0; exact Or.inl ⟨by simp, hr⟩
    · refine Or.inr ⟨col - 1, by omega, by omega, ?_⟩
      rw [show col - 1 + 1 = col by omega]; exact hr
  clear h hr
  obtain ⟨t, ht, hst⟩ := HST.out
  have hcm : (col : Int) ≤ 9223372036854775807 := by omega
  have HS0 := Lib.hid hst
  clear hst HST
  go_enter Try.func85, Try.ntmps85
  go_wp2_with fail
  go_loopw [3] (fun iv wr => ∃ t : Int, iv = .int .i64 t ∧ wr = w ∧ Hid ((t = -1 ∧ stopB x 0 = r) ∨ ∃ k : Nat, k < col ∧ t = (k : Nat) ∧ stopB x (k + 1) = r)) (fun iv _ => (intOf iv + 1).toNat)
  case atStart => exact ⟨_, rfl, rfl, HS0.out⟩
  case round =>
    obtain ⟨t, rfl, rfl, HT⟩ := hrel
    clear HS0 ht hcm
    rcases HT.out with ⟨rfl, hs⟩ | ⟨k, hk, rfl, hs⟩
    · have hrf : r = false := by rw [← hs]; rfl
      subst hrf
      clear hs
      go_wp2
      go_ret
      exact ⟨rfl, rfl⟩
    · have hkm : k < m := by omega
      obtain ⟨b, off, rfl, hbl, c0⟩ := HD.out.at_ hkm
      rw [stopB] at hs
      obtain ⟨c1, hc1⟩ : ∃ c1, x.getD k 0 = c1 := ⟨_, rfl⟩
      rw [hc1] at c0 hs
      have gk : (0 : Int) ≤ (k : Int) := by omega
      clear hc1
      by_cases hv : c1 = 46
      · have hcl : closer c1 = false := by simp [closer, hv]
        have hst : stopper c1 = true := by simp [stopper, hv]
        have e46 : (c1 == 46) = true := by simp [hv]
        rw [hcl, hst] at hs
        have hrt : r = true := by rw [← hs]; rfl
        subst hrt
        clear hs hcl hst hv
        go_wp2
        go_ret
        exact ⟨rfl, rfl⟩
      have n46 := hv; clear hv
      by_cases hv : c1 = 33
      · have hcl : closer c1 = false := by simp [closer, hv]
        have hst : stopper c1 = true := by simp [stopper, hv]
        have e46 : (c1 == 46) = false := by simp; omega
        have e33 : (c1 == 33) = true := by simp [hv]
        rw [hcl, hst] at hs
        have hrt : r = true := by rw [← hs]; rfl
        subst hrt
        clear hs hcl hst hv
        go_wp2
        go_ret
        exact ⟨rfl, rfl⟩
      have n33 := hv; clear hv
      by_cases hv : c1 = 63
      · have hcl : closer c1 = false := by simp [closer, hv]
        have hst : stopper c1 = true := by simp [stopper, hv]
        have e46 : (c1 == 46) = false := by simp; omega
        have e33 : (c1 == 33) = false := by simp; omega
        have e63 : (c1 == 63) = true := by simp [hv]
        rw [hcl, hst] at hs
        have hrt : r = true := by rw [← hs]; rfl
        subst hrt
        clear hs hcl hst hv
        go_wp2
        go_ret
        exact ⟨rfl, rfl⟩
      have n63 := hv; clear hv
      by_cases hv : c1 = 41
      · have hcl : closer c1 = true := by simp [closer, hv]
        have e46 : (c1 == 46) = false := by simp; omega
        have e33 : (c1 == 33) = false := by simp; omega
        have e63 : (c1 == 63) = false := by simp; omega
        have e41 : (c1 == 41) = true := by simp [hv]
        rw [hcl, if_pos rfl] at hs
        have HN : Hid (((k : Int) - 1 = -1 ∧ stopB x 0 = r) ∨ ∃ k' : Nat, k' < col ∧ (k : Int) - 1 = (k' : Nat) ∧ stopB x (k' + 1) = r) := by
          by_cases h0 : k = 0
          · subst h0; exact Or.inl ⟨by simp, hs⟩
          · exact Or.inr ⟨k - 1, by omega, by omega, by rw [show k - 1 + 1 = k by omega]; exact hs⟩
        clear hs hcl hv
        go_wp2
        go_roundw
        case rel => exact ⟨_, rfl, by first | rfl | trivial, HN.out⟩
        case measure => first | (simp [intOf]; done) | (simp [intOf]; omega)
      have n41 := hv; clear hv
      by_cases hv : c1 = 93
      · have hcl : closer c1 = true := by simp [closer, hv]
        have e46 : (c1 == 46) = false := by simp; omega
        have e33 : (c1 == 33) = false := by simp; omega
        have e63 : (c1 == 63) = false := by simp; omega
        have e41 : (c1 == 41) = false := by simp; omega
        have e93 : (c1 == 93) = true := by simp [hv]
        rw [hcl, if_pos rfl] at hs
        have HN : Hid (((k : Int) - 1 = -1 ∧ stopB x 0 = r) ∨ ∃ k' : Nat, k' < col ∧ (k : Int) - 1 = (k' : Nat) ∧ stopB x (k' + 1) = r) := by
          by_cases h0 : k = 0
          · subst h0; exact Or.inl ⟨by simp, hs⟩
          · exact Or.inr ⟨k - 1, by omega, by omega, by rw [show k - 1 + 1 = k by omega]; exact hs⟩
        clear hs hcl hv
        go_wp2
        go_roundw
        case rel => exact ⟨_, rfl, by first | rfl | trivial, HN.out⟩
        case measure => first | (simp [intOf]; done) | (simp [intOf]; omega)
      have n93 := hv; clear hv
      by_cases hv : c1 = 34
      · have hcl : closer c1 = true := by simp [closer, hv]
        have e46 : (c1 == 46) = false := by simp; omega
        have e33 : (c1 == 33) = false := by simp; omega
        have e63 : (c1 == 63) = false := by simp; omega
        have e41 : (c1 == 41) = false := by simp; omega
        have e93 : (c1 == 93) = false := by simp; omega
        have e34 : (c1 == 34) = true := by simp [hv]
        rw [hcl, if_pos rfl] at hs
        have HN : Hid (((k : Int) - 1 = -1 ∧ stopB x 0 = r) ∨ ∃ k' : Nat, k' < col ∧ (k : Int) - 1 = (k' : Nat) ∧ stopB x (k' + 1) = r) := by
          by_cases h0 : k = 0
          · subst h0; exact Or.inl ⟨by simp, hs⟩
          · exact Or.inr ⟨k - 1, by omega, by omega, by rw [show k - 1 + 1 = k by omega]; exact hs⟩
        clear hs hcl hv
        go_wp2
        go_roundw
        case rel => exact ⟨_, rfl, by first | rfl | trivial, HN.out⟩
        case measure => first | (simp [intOf]; done) | (simp [intOf]; omega)
      have n34 := hv; clear hv
      by_cases hv : c1 = 39
      · have hcl : closer c1 = true := by simp [closer, hv]
        have e46 : (c1 == 46) = false := by simp; omega
        have e33 : (c1 == 33) = false := by simp; omega
        have e63 : (c1 == 63) = false := by simp; omega
        have e41 : (c1 == 41) = false := by simp; omega
        have e93 : (c1 == 93) = false := by simp; omega
        have e34 : (c1 == 34) = false := by simp; omega
        have e39 : (c1 == 39) = true := by simp [hv]
        rw [hcl, if_pos rfl] at hs
        have HN : Hid (((k : Int) - 1 = -1 ∧ stopB x 0 = r) ∨ ∃ k' : Nat, k' < col ∧ (k : Int) - 1 = (k' : Nat) ∧ stopB x (k' + 1) = r) := by
          by_cases h0 : k = 0
          · subst h0; exact Or.inl ⟨by simp, hs⟩
          · exact Or.inr ⟨k - 1, by omega, by omega, by rw [show k - 1 + 1 = k by omega]; exact hs⟩
        clear hs hcl hv
        go_wp2
        go_roundw
        case rel => exact ⟨_, rfl, by first | rfl | trivial, HN.out⟩
        case measure => first | (simp [intOf]; done) | (simp [intOf]; omega)
      have n39 := hv; clear hv
      have hcl : closer c1 = false := by simp [closer]; omega
      have hst : stopper c1 = false := by simp [stopper]; omega
      have e46 : (c1 == 46) = false := by simp; omega
      have e33 : (c1 == 33) = false := by simp; omega
      have e63 : (c1 == 63) = false := by simp; omega
      have e41 : (c1 == 41) = false := by simp; omega
      have e93 : (c1 == 93) = false := by simp; omega
      have e34 : (c1 == 34) = false := by simp; omega
      have e39 : (c1 == 39) = false := by simp; omega
      rw [hcl, hst] at hs
      have hrt : r = false := by rw [← hs]; rfl
      subst hrt
      clear hs hcl hst n46 n33 n63 n41 n93 n34 n39
      go_wp2
      go_ret
      exact ⟨rfl, rfl⟩
theorem wfollow_eq (a : Option Addr) (m c : Nat) (x : List Int) (w : World) (h : Rd .i32 w a m c x) :
    Calls Try.prog 84 #[.slice a m c] w fun e w' => e = .returned (.bool (if blankL x = true then true else stopB x (backB x x.length))) ∧ w = w' := by
  have hl := h.len
  have hsm := h.small
  have hbz := blank_zero x
  have hble := backB_le x m
  rw [hl] at hbz ⊢
  have HT := Lib.hid (fun W (hW : Below w.heap.size w W) => wtrim_eq a m c x m W (h.below hW) (Nat.le_refl _))
  have HE := Lib.hid (fun W (hW : Below w.heap.size w W) => wsaid_eq a m c x (backB x m) W (h.below hW) hble)
  obtain ⟨k, hk⟩ : ∃ k, backB x m = k := ⟨_, rfl⟩
  rw [hk] at hbz hble HT HE ⊢
  obtain ⟨r, hr⟩ : ∃ r, stopB x k = r := ⟨_, rfl⟩
  rw [hr] at HE ⊢
  clear h hk hr hl
  by_cases h0 : k = 0
  · subst h0
    rw [hbz, if_pos (by simp)]
    clear hbz
    go_enter Try.func84, Try.ntmps84
    go_wp2_with (go_at_call 83; refine (HT.out _ (Below.refl _ _)).mono ?_; rintro e w' ⟨rfl, hw⟩; subst hw)
    go_ret
    exact ⟨rfl, rfl⟩
  · rw [hbz, if_neg (by simp [h0])]
    have e0 : ((k : Int) == 0) = false := by simp; omega
    clear hbz
    go_enter Try.func84, Try.ntmps84
    go_wp2_with (first
      | (go_at_call 83; refine (HT.out _ (Below.refl _ _)).mono ?_; rintro e w' ⟨rfl, hw⟩; subst hw)
      | (go_at_call 85; refine (HE.out _ (Below.refl _ _)).mono ?_; rintro e w' ⟨rfl, hw⟩; subst hw))
    go_ret
    exact ⟨rfl, rfl⟩
end Go.Proofs.Ytikdojebnbmpoaa.U
