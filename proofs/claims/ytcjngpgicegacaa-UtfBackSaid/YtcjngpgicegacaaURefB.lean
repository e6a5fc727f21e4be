/-
  Contracts of the document's own answer of layer 1: Whole, begins, Next, Decode, Encode.
-/
import Derived.Test.YtcjngpgicegacaaURefA
import Derived.Deep.DeepCutAuto
import Derived.Deep.RegionWith
namespace Go.Proofs.Ytcjngpgicegacaa.U
open Go.RowKit
set_option linter.unusedVariables false
set_option linter.unusedSimpArgs false

theorem hit_false_of {xs : List Int} {n : Nat} {b : Bool} (hv : 0 ≤ valueV xs n) (h1 : validB (valueV xs n) = true) (hb : decide (encB (valueV xs n) = xs.take n) = b) (hf : b = false) : ¬ hit xs n := by
  subst hf
  rintro ⟨_, _, h⟩
  simp at hb
  exact hb h

theorem below_via {w w1 w1' w2 : World} (h : Below w.heap.size w w1) (k : Below w1'.heap.size w1' w2) (hs : w.heap.size ≤ w1.heap.size) (he : w1'.heap = w1.heap ∧ w1'.os = w1.os ∧ w1'.tape = w1.tape ∧ w1'.output = w1.output) : Below w.heap.size w w2 := by
  obtain ⟨e1, e2, e3, e4⟩ := he
  have h' : Below w.heap.size w w1' := ⟨e2.trans h.os, e3.trans h.tape, e4.trans h.output, by rw [e1]; exact h.size, fun k hk => by rw [e1]; exact h.block k hk⟩
  exact h'.trans (k.mono (by rw [e1]; exact hs))

set_option maxHeartbeats 2000000 in
theorem whole_any (a : Option Addr) (len cap : Nat) (xs : List Int) (R N : Int) (M : Bool) (w : World) (hr : Rd .u8 w a len cap xs) (HV : Hid (wholeV xs = (R, N, M))) :
    Calls Try.prog 26 #[.slice a len cap] w fun e w' => e = .returned (.tuple #[.int .i32 R, .int .i64 N, .bool M]) ∧ Below w.heap.size w w' := by
  have hsm := hr.small
  have hl := Lib.hid hr.1
  have HU : Hid (∀ x ∈ xs, 0 ≤ x ∧ x ≤ 255) := fun x hx => wf_u8_in (hr.2.2.2.1 x hx)
  have hlc := hr.2.1
  have hcm : cap ≤ 9223372036854775807 := by have := hr.2.2.1; unfold maxLen at this; omega
  have HR := Lib.hid hr; clear hr
  go_enter Try.func26, Try.ntmps26
  go_wp2_with fail
  go_loopw [5] (fun i wr => ∃ n : Nat, i = .int .i64 n ∧ 1 ≤ n ∧ n ≤ 5 ∧ n ≤ len + 1 ∧ Hid (∀ m, 1 ≤ m → m < n → ¬ hit xs m) ∧ Below w.heap.size w wr) (fun i _ => 5 - (intOf i).toNat)
  case atStart => exact ⟨1, rfl, by omega, by omega, by omega, fun m h1 h2 => by omega, Below.refl _ _⟩
  case round =>
    obtain ⟨n, rfl, hn1, hn5, hnl, HM, hbl⟩ := hrel
    by_cases e1 : n = 5 ∨ n = len + 1
    · have hw := whole_miss HU.out (fun m h1 h4 hml => HM.out m h1 (by have := hl.out; omega))
      rw [HV.out] at hw
      simp only [Prod.mk.injEq] at hw
      obtain ⟨rfl, rfl, rfl⟩ := hw
      by_cases e5 : n = 5
      · subst e5
        clear e1
        go_wp2
        go_ret3
        exact ⟨rfl, hbl⟩
      · have e6 : ¬ (n : Int) ≤ len := by omega
        have e7 : (n : Int) ≤ 4 := by omega
        clear e1
        go_wp2
        go_ret3
        exact ⟨rfl, hbl⟩
    · have hn4 : n ≤ 4 := by omega
      have hnl' : n ≤ len := by omega
      clear e1
      obtain ⟨v, hv⟩ : ∃ v, valueV xs n = v := ⟨_, rfl⟩
      have HVal := Lib.hid hv
      have hvb : -1 ≤ v ∧ v ≤ 1114111 := by rw [← hv]; unfold valueV; simp only; split <;> omega
      have hrw := Lib.hid (HR.out.below hbl)
      have htk := Lib.hid (HR.out.take n hnl')
      have hbs := hbl.size
      go_upto_region 5 with (go_at_call 33; refine (value_any a len cap n xs v _ hrw.out hn1 hn4 hnl' HVal).mono ?_; rintro e w1 ⟨rfl, hb1⟩; have hb01 := Lib.hid (hbl.trans (hb1.mono (B' := w.heap.size) hbs)); clear hb1)
      have hs1 := hb01.out.size
      go_cut [33] (fun c wx => ∃ B : Bool, c = .bool B ∧ Hid (B = true ↔ hit xs n) ∧ Below w.heap.size w wx)
      case first =>
        by_cases q1 : v < 0
        · have q1' : ¬ 0 ≤ v := by omega
          have q1b : decide (0 ≤ v) = false := by simp; omega
          have hnh : Hid (false = true ↔ hit xs n) := ⟨fun h => by simp at h, fun h => by have := h.1; omega⟩
          clear hv
          go_quiet (fail)
          go_wp2_with fail
          go_meet
          exact ⟨false, rfl, hnh, bdrewN hb01.out _⟩
        have q2 : 0 ≤ v := by omega
        have q2b : decide (0 ≤ v) = true := by simp; omega
        by_cases q3 : validB v = true
        · obtain ⟨B, hB⟩ : ∃ B, decide (encB v = xs.take n) = B := ⟨_, rfl⟩
          have HB := Lib.hid hB
          have hh : Hid (B = true ↔ hit xs n) := by
            constructor
            · rintro rfl
              exact ⟨by rw [hv]; exact q2, by rw [hv]; exact q3, by rw [hv]; simpa using hB⟩
            · rintro ⟨_, _, h⟩
              rw [hv] at h
              rw [← hB]; exact decide_eq_true h
          have hsv : scal v = v := scal_of_valid q3
          have HQ3 := Lib.hid q3
          have HOne : Hid (∀ W : World, Calls Try.prog 17 #[.int .i32 v] W fun e w' => ∃ v', e = .returned v' ∧ w'.ownsRow W.heap.size 5 1 v' (encB v).length ((encB v).map (Value.int .u8)) ∧ Below W.heap.size W w') := by
            intro W
            have h := refOne_any v W
            rw [hsv] at h
            exact h
          have HEB : Hid (∀ x ∈ encB v, (Lit.int .u8 x).wf = true) := fun x hx => byte_wf (encB_bytes v q2 hvb.2 x hx)
          clear hv hB q3 hsv
          go_region_with (first
            | (go_at_call 15; refine (refValid_is v true _ HQ3).mono ?_; rintro e w2 ⟨rfl, rfl⟩)
            | (go_at_call 17; refine (HOne.out _).mono ?_; rintro e w2 ⟨v2, rfl, hown2, hb2⟩; obtain ⟨a2, c2, hv2⟩ := own_slice hown2; subst hv2; have HO2 := Lib.hid hown2; clear hown2; have hb02 := Lib.hid (below_via hb01.out hb2 hs1 ⟨rfl, rfl, rfl, rfl⟩); clear hb2)
            | (go_at_call 34; refine (same_any a2 _ c2 (encB v) a n cap (xs.take n) B _ (Rd.own HO2.out HEB.out) (htk.out.below hb02.out) HB).mono ?_; rintro e w3 ⟨rfl, hb3⟩))
          all_goals
            go_wp2_with fail
            go_meet
            exact ⟨B, rfl, hh, hb02.out.trans (hb3.mono (B' := w.heap.size) hb02.out.size)⟩
        · have hvf : validB v = false := by simpa using q3
          have hnh : Hid (false = true ↔ hit xs n) := ⟨fun h => by simp at h, fun h => by have := h.2.1; rw [hv] at this; exact absurd this q3⟩
          have HVF := Lib.hid hvf
          clear hv hvf q3
          go_quiet ((go_at_call 15; exact Calls.quiet_of_same ((refValid_is v false _ HVF).mono fun e w' h => ⟨h.1, h.2.symm⟩)))
          go_wp2_with fail
          go_meet
          exact ⟨false, rfl, hnh, bdrewN hb01.out _⟩
      case rest =>
        obtain ⟨B, rfl, hB, hbc⟩ := hcut
        cases B with
        | true =>
          have hh := whole_hit (by have := hl.out; omega) (hB.out.1 rfl)
          rw [HV.out, hv] at hh
          simp only [Prod.mk.injEq] at hh
          obtain ⟨rfl, rfl, rfl⟩ := hh
          clear hv
          go_wp2
          go_ret3
          exact ⟨rfl, hbc⟩
        | false =>
          have HM2 : Hid (∀ m, 1 ≤ m → m < n + 1 → ¬ hit xs m) := by
            intro m h1 h2 h3
            by_cases hmn : m = n
            · subst hmn; have := hB.out.2 h3; simp at this
            · exact HM.out m h1 (by omega) h3
          clear hv
          go_wp2
          go_roundw
          case rel => exact ⟨n + 1, by go_num, by omega, by omega, by omega, HM2, hbc⟩
          case measure => simp [intOf]; omega
end Go.Proofs.Ytcjngpgicegacaa.U
