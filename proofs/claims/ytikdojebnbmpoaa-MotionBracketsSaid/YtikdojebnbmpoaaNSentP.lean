/-
  The program's sentenceBegins.
-/
import Derived.Test.YtikdojebnbmpoaaNSaid
namespace Go.Proofs.Ytikdojebnbmpoaa.U
open Go.RowKit
set_option linter.unusedVariables false
set_option linter.unusedSimpArgs false
set_option maxRecDepth 100000

set_option maxHeartbeats 600000 in
theorem wsent_any (F : Nat → Prop) (a : Option Addr) (n c : Nat) (L : List (List Int)) (p : Pl) (w : World) (h : RdL F w a n c L) (hp : okP L p) :
    Calls Try.prog 76 #[.slice a n c, plV p] w fun e w' => e = .returned (.bool (sentB L p.1 p.2)) ∧ Below w.heap.size w w' := by
  have hsm := h.small
  have hl := h.len
  obtain ⟨w1, hw1⟩ : ∃ w1, w.alloc (.cells #[.int .i64 (p.1 : Nat), .int .i64 (p.2 : Nat)] 24) = w1 := ⟨_, rfl⟩
  have hb1 : Below w.heap.size w w1 := by rw [← hw1]; exact bal _ _
  have g1 : w1.heap[w.heap.size]? = some (.cells #[.int .i64 (p.1 : Nat), .int .i64 (p.2 : Nat)] 24 (0, 0)) := by rw [← hw1]; exact heap_alloc_new w _
  have HE := Lib.hid (fun (k : Nat) (hk : k < n) => wempty_eq F a n c L k w1 (h.below hb1) hk)
  have HLN : Hid (∀ i0, i0 < n → ∃ b off ra rc, a = some ⟨b, off, none⟩ ∧ w1.cell? ⟨b, off + i0, none⟩ = some (.slice ra (lnL L i0).length rc) ∧ Rd .i32 w1 ra (lnL L i0).length rc (lnL L i0)) := by
    intro i0 hi0
    obtain ⟨b, off, ra, rc, e1, _, _, e2, e3⟩ := okP.line (p := (i0, 0)) h ⟨by simp only; omega, by simp⟩ hb1
    exact ⟨b, off, ra, rc, e1, e2, e3⟩
  obtain ⟨b, off, ra, rc, rfl, hpn, hbl, e0, hrd⟩ := hp.line h hb1
  obtain ⟨a0, a1, z0, z1⟩ := row2 g1
  have hok := hp.2
  obtain ⟨i, j⟩ := p
  simp only at a0 a1 hpn hok e0 hrd hw1 ⊢
  show Calls Try.prog 76 #[.slice (some ⟨b, off, none⟩) n c, .agg #[.int .i64 (i : Nat), .int .i64 (j : Nat)]] w _
  have HEi := Lib.hid (HE.out i hpn)
  obtain ⟨x, hx⟩ : ∃ x, lnL L i = x := ⟨_, rfl⟩
  obtain ⟨res, hres⟩ : ∃ r, sentB L i j = r := ⟨_, rfl⟩
  rw [hres]
  unfold sentB at hres
  rw [hx] at e0 hrd hok HEi hres
  obtain ⟨m, hm⟩ : ∃ m, x.length = m := ⟨_, rfl⟩
  rw [hm] at e0 hrd hok HEi
  have hms := hrd.small
  have HW1 := Lib.hid hw1
  have HB1 := Lib.hid hb1
  clear h hp hx g1 hw1 hb1 hbl hl
  by_cases h0 : m = 0
  · have hxn : x = [] := List.eq_nil_of_length_eq_zero (by omega)
    have hd : decide (m = 0) = true := by simp [h0]
    rw [if_pos hxn] at hres
    rw [hd] at HEi
    clear hrd hok hd h0 hm hxn HLN
    by_cases hi : i = 0
    · have hr : res = false := by rw [← hres]; simp [hi]
      have d0 : decide ((0 : Int) < (i : Int)) = false := by simp; omega
      have d1 : decide (0 < i) = false := by simp; omega
      have d2 : ¬ 0 < i := by omega
      have d3 : ¬ (0 : Int) < (i : Int) := by omega
      subst hr
      clear hres hi
      go_enter Try.func76, Try.ntmps76
      go_upto_region 1 with fail
      rw [HW1.out]
      go_wp2_with (go_at_call 73; refine HEi.out.mono ?_; rintro e w' ⟨rfl, hw⟩; subst hw)
      go_ret
      exact ⟨rfl, HB1.out⟩
    · obtain ⟨i1, hi1⟩ : ∃ i1, i - 1 = i1 := ⟨_, rfl⟩
      have s1 : (i : Int) - 1 = (i1 : Int) := by omega
      have hi0 : 0 < i := by omega
      have gi : (0 : Int) < (i : Int) := by omega
      have d0 : decide ((0 : Int) < (i : Int)) = true := by simp; omega
      have d1 : decide (0 < i) = true := by simp; omega
      have HE1 := Lib.hid (HE.out i1 (by omega))
      rw [hi1] at hres
      have hr : res = !(decide ((lnL L i1).length = 0)) := by
        rw [← hres]
        by_cases hz : (lnL L i1).length = 0
        · simp [hz]
        · have : 0 < (lnL L i1).length := by omega
          simp [hz, this, hi0]
      obtain ⟨d, hdd⟩ : ∃ d, decide ((lnL L i1).length = 0) = d := ⟨_, rfl⟩
      rw [hdd] at HE1 hr
      subst hr
      clear hres hdd hi hi1 HE
      have tok : True := trivial
      go_enter Try.func76, Try.ntmps76
      go_upto_region 1 with fail
      rw [HW1.out]
      go_wp2_with (first
        | (go_at_call 73; have _t := tok; refine HEi.out.mono ?_; clear tok _t; rintro e w' ⟨rfl, hw⟩; subst hw)
        | (go_at_call 73; refine HE1.out.mono ?_; rintro e w' ⟨rfl, hw⟩; subst hw))
      go_ret
      exact ⟨rfl, HB1.out⟩
  · have hxn : ¬ x = [] := by rintro rfl; simp at hm; omega
    have hd : decide (m = 0) = false := by simp [h0]
    rw [if_neg hxn] at hres
    rw [hd] at HEi
    have hjm : j < m := by omega
    obtain ⟨rb, ro, rfl, hrb, hc⟩ := hrd.all_ (by omega)
    have c0 := hc j hjm
    obtain ⟨r0, hr0⟩ : ∃ r, x.getD j 0 = r := ⟨_, rfl⟩
    rw [hr0] at c0 hres
    have HB := Lib.hid (wblank_eq r0 w1)
    clear hc hd h0 hxn hr0 hok HE
    by_cases hz : cls false r0 = 0
    · have hbb : blankB r0 = true := by simp [blankB, hz]
      rw [if_pos hz] at hres
      subst hres
      rw [hbb] at HB
      clear hbb hz hrd
      go_enter Try.func76, Try.ntmps76
      go_upto_region 1 with fail
      rw [HW1.out]
      go_wp2_with (first
        | (go_at_call 73; refine HEi.out.mono ?_; rintro e w' ⟨rfl, hw⟩; subst hw)
        | (go_at_call 82; refine HB.out.mono ?_; rintro e w' ⟨rfl, hw⟩; subst hw))
      go_ret
      exact ⟨rfl, HB1.out⟩
    have hbb : blankB r0 = false := by simp [blankB, hz]
    rw [if_neg hz] at hres
    rw [hbb] at HB
    have hmc : m ≤ rc := hrd.2.1
    have hcs : rc ≤ 9223372036854775807 := by have := hrd.2.2.1; unfold maxLen at this; omega
    have hjc : j ≤ rc := by omega
    have HT := Lib.hid (wtrim_eq _ m rc x j w1 hrd (by omega))
    have hkj := backB_le x j
    have HS := Lib.hid (wsaid_eq _ m rc x (backB x j) w1 hrd (by omega))
    obtain ⟨k, hk⟩ : ∃ k, backB x j = k := ⟨_, rfl⟩
    rw [hk] at HT HS hkj hres
    clear hbb hz hrd hk
    by_cases hk0 : k = 0
    · subst hk0
      rw [if_neg (by omega)] at hres
      by_cases hi : i = 0
      · rw [if_pos (Or.inl hi)] at hres
        have d0 : ((i : Int) == 0) = true := by simp; omega
        have d1 : (i == 0) = true := by simp; omega
        subst hres
        clear HS hi
        go_enter Try.func76, Try.ntmps76
        go_upto_region 1 with fail
        rw [HW1.out]
        go_wp2_with (first
          | (go_at_call 73; refine HEi.out.mono ?_; rintro e w' ⟨rfl, hw⟩; subst hw)
          | (go_at_call 82; refine HB.out.mono ?_; rintro e w' ⟨rfl, hw⟩; subst hw)
          | (go_at_call 83; refine HT.out.mono ?_; rintro e w' ⟨rfl, hw⟩; subst hw))
        go_ret
        exact ⟨rfl, HB1.out⟩
      · obtain ⟨i1, hi1⟩ : ∃ i1, i - 1 = i1 := ⟨_, rfl⟩
        have s1 : (i : Int) - 1 = (i1 : Int) := by omega
        have hi1n : i1 < n := by omega
        have ne0 : ((i : Int) == 0) = false := by simp; omega
        have ne1 : (i == 0) = false := by simp; omega
        have ne2 : ¬ i = 0 := hi
        obtain ⟨b', off', ra1, rc1, eab, e1, hrd1⟩ := HLN.out i1 hi1n
        cases eab
        have HF := Lib.hid (wfollow_eq _ _ rc1 _ w1 hrd1)
        rw [hi1] at hres
        have hr : (if blankL (lnL L i1) = true then true else stopB (lnL L i1) (backB (lnL L i1) (lnL L i1).length)) = res := by
          rw [← hres]
          by_cases hb : blankL (lnL L i1) = true
          · rw [if_pos hb, if_pos (Or.inr hb)]
          · rw [if_neg hb, if_neg (by rintro (h | h); exact hi h; exact hb h)]
        rw [hr] at HF
        obtain ⟨m1, hm1⟩ : ∃ m1, (lnL L i1).length = m1 := ⟨_, rfl⟩
        rw [hm1] at HF e1
        clear hr hres hrd1 hm1 hi hi1 HS HLN
        go_enter Try.func76, Try.ntmps76
        go_upto_region 1 with fail
        rw [HW1.out]
        go_wp2_with (first
          | (go_at_call 73; refine HEi.out.mono ?_; rintro e w' ⟨rfl, hw⟩; subst hw)
          | (go_at_call 82; refine HB.out.mono ?_; rintro e w' ⟨rfl, hw⟩; subst hw)
          | (go_at_call 83; refine HT.out.mono ?_; rintro e w' ⟨rfl, hw⟩; subst hw)
          | (go_at_call 84; refine HF.out.mono ?_; rintro e w' ⟨rfl, hw⟩; subst hw))
        go_ret
        exact ⟨rfl, HB1.out⟩
    · rw [if_pos (by omega)] at hres
      have e0k : ((k : Int) == 0) = false := by simp; omega
      have e1k : (k == 0) = false := by simp; omega
      have hkm : (k : Int) ≤ 9223372036854775807 := by omega
      clear HLN
      by_cases hkj2 : k < j
      · have d1 : decide ((k : Int) < (j : Int)) = true := by simp; omega
        have dj : decide (k < j) = true := by simp; omega
        rw [dj, Bool.true_and] at hres
        rw [hres] at HS
        clear hres dj
        go_enter Try.func76, Try.ntmps76
        go_upto_region 1 with fail
        rw [HW1.out]
        go_wp2_with (first
          | (go_at_call 73; refine HEi.out.mono ?_; rintro e w' ⟨rfl, hw⟩; subst hw)
          | (go_at_call 82; refine HB.out.mono ?_; rintro e w' ⟨rfl, hw⟩; subst hw)
          | (go_at_call 83; refine HT.out.mono ?_; rintro e w' ⟨rfl, hw⟩; subst hw)
          | (go_at_call 85; refine HS.out.mono ?_; rintro e w' ⟨rfl, hw⟩; subst hw))
        go_ret
        exact ⟨rfl, HB1.out⟩
      · have d1 : decide ((k : Int) < (j : Int)) = false := by simp; omega
        have dj : decide (k < j) = false := by simp; omega
        rw [dj, Bool.false_and] at hres
        subst hres
        clear dj HS
        go_enter Try.func76, Try.ntmps76
        go_upto_region 1 with fail
        rw [HW1.out]
        go_wp2_with (first
          | (go_at_call 73; refine HEi.out.mono ?_; rintro e w' ⟨rfl, hw⟩; subst hw)
          | (go_at_call 82; refine HB.out.mono ?_; rintro e w' ⟨rfl, hw⟩; subst hw)
          | (go_at_call 83; refine HT.out.mono ?_; rintro e w' ⟨rfl, hw⟩; subst hw))
        go_ret
        exact ⟨rfl, HB1.out⟩
end Go.Proofs.Ytikdojebnbmpoaa.U
