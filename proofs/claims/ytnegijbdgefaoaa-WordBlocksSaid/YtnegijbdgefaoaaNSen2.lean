/-
  The document's Sentence. (MADE by wip/tools/gen_sent2.py.)
-/
import Derived.Test.YtnegijbdgefaoaaNSent
namespace Go.Proofs.Ytnegijbdgefaoaa.U
open Go.RowKit
set_option linter.unusedVariables false
set_option linter.unusedSimpArgs false
set_option maxRecDepth 100000

theorem backB_le (x : List Int) : ∀ k, backB x k ≤ k
  | 0 => Nat.le_refl _
  | k + 1 => by
    rw [backB]
    split
    · have := backB_le x k; omega
    · exact Nat.le_refl _
theorem backB_zero (x : List Int) : ∀ k, backB x k = 0 → ∀ i, i < k → cls false (x.getD i 0) = 0
  | 0, _, i, hi => by omega
  | k + 1, h, i, hi => by
    rw [backB] at h
    split at h
    · rename_i hz
      by_cases e : i = k
      · rw [e]; exact hz
      · exact backB_zero x k h i (by omega)
    · omega
theorem blank_back {x : List Int} (h : blankL x = false) : 0 < backB x x.length := by
  rcases Nat.eq_zero_or_pos (backB x x.length) with h0 | h0
  · have h1 := backB_zero x x.length h0
    have : blankL x = true := by
      unfold blankL
      rw [List.all_eq_true]
      intro c hc
      obtain ⟨i, hi, rfl⟩ := List.mem_iff_getElem.1 hc
      have := h1 i hi
      rw [List.getD_eq_getElem?_getD, List.getElem?_eq_getElem hi] at this
      simpa using this
    rw [h] at this; cases this
  · exact h0

set_option maxHeartbeats 2000000 in
theorem rsent_any (F : Nat → Prop) (a : Option Addr) (n c : Nat) (L : List (List Int)) (p : Pl) (w : World) (h : RdL F w a n c L) (hp : okP L p) :
    Calls Try.prog 50 #[.slice a n c, plV p] w fun e w' => e = .returned (.bool (sentB L p.1 p.2)) ∧ Below w.heap.size w w' := by
  have hsm := h.small
  obtain ⟨w1, hw1⟩ : ∃ w1, w.alloc (.cells #[.int .i64 (p.1 : Nat), .int .i64 (p.2 : Nat)] 24) = w1 := ⟨_, rfl⟩
  have hb1 : Below w.heap.size w w1 := by rw [← hw1]; exact bal _ _
  have g1 : w1.heap[w.heap.size]? = some (.cells #[.int .i64 (p.1 : Nat), .int .i64 (p.2 : Nat)] 24 (0, 0)) := by rw [← hw1]; exact heap_alloc_new w _
  have hprev : ∀ i0, p.1 = i0 + 1 → ∃ b off ya yc, a = some ⟨b, off, none⟩ ∧ w1.cell? ⟨b, off + i0, none⟩ = some (.slice ya (lnL L i0).length yc) ∧ Rd .i32 w1 ya (lnL L i0).length yc (lnL L i0) := by
    intro i0 hi0
    have hlt := hp.1
    obtain ⟨b, off, ra, rc, e1, _, _, e2, e3⟩ := okP.line (p := (i0, 0)) h ⟨by simp only; omega, by simp⟩ hb1
    exact ⟨b, off, ra, rc, e1, e2, e3⟩
  obtain ⟨b, off, ra, rc, rfl, hpn, hbl, e0, hrd⟩ := hp.line h hb1
  obtain ⟨a0, a1, z0, z1⟩ := row2 g1
  have hok := hp.2
  obtain ⟨i, j⟩ := p
  simp only at a0 a1 hpn hok e0 hrd hw1 hprev ⊢
  show Calls Try.prog 50 #[.slice (some ⟨b, off, none⟩) n c, .agg #[.int .i64 (i : Nat), .int .i64 (j : Nat)]] w _
  obtain ⟨x, hx⟩ : ∃ x, lnL L i = x := ⟨_, rfl⟩
  rw [hx] at e0 hrd hok
  obtain ⟨r, hr⟩ : ∃ r, sentB L i j = r := ⟨_, rfl⟩
  rw [hr]
  unfold sentB at hr
  rw [hx] at hr
  obtain ⟨m, hm⟩ : ∃ m, x.length = m := ⟨_, rfl⟩
  rw [hm] at e0 hrd hok
  have hms := hrd.small
  have HW1 := Lib.hid hw1
  have HB1 := Lib.hid hb1
  have HPV := Lib.hid hprev
  clear h hp hx g1 hw1 hb1 hbl hprev
  by_cases h0 : m = 0
  · subst h0
    rw [if_pos (List.eq_nil_of_length_eq_zero hm)] at hr
    clear hm hrd hok
    rcases Nat.eq_zero_or_pos i with hi | hi
    · have hrf : r = false := by rw [← hr]; simp [hi]
      subst hrf
      have g3 : ¬ (0 : Int) < (i : Int) := by omega
      clear hr hi
      go_enter Try.func50, Try.ntmps50
      go_upto_region 1 with fail
      rw [HW1.out]
      go_wp2_with fail
      go_ret
      exact ⟨ret_bool (by first | rfl | simp), HB1.out⟩
    · obtain ⟨i0, hi0⟩ : ∃ i0, i = i0 + 1 := ⟨i - 1, by omega⟩
      obtain ⟨b', off', ya, yc, hbo, e1, hry⟩ := HPV.out i0 hi0
      cases hbo
      rw [show i - 1 = i0 by omega] at hr
      obtain ⟨y, hy⟩ : ∃ y, lnL L i0 = y := ⟨_, rfl⟩
      rw [hy] at hr e1 hry
      obtain ⟨my, hmy⟩ : ∃ my, y.length = my := ⟨_, rfl⟩
      rw [hmy] at hr e1 hry
      have hmys := hry.small
      have s1 : (i : Int) - 1 = (i0 : Int) := by omega
      have g1 : (0 : Int) < (i : Int) := by omega
      have hin : i0 < n := by omega
      have hrf : r = decide (0 < my) := by rw [← hr]; simp [hi]
      subst hrf
      clear hr hry hy hmy hi0
      go_enter Try.func50, Try.ntmps50
      go_upto_region 1 with fail
      rw [HW1.out]
      go_wp2_with fail
      go_ret
      exact ⟨ret_bool (by first | rfl | simp), HB1.out⟩
  have hxn : ¬ x = [] := by rintro rfl; simp at hm; omega
  rw [if_neg hxn] at hr
  have q1 : ((m : Int) == 0) = false := by simp; omega
  have q2 : ¬ m = 0 := h0
  obtain ⟨rb, ro, rfl, hrb, hc⟩ := hrd.all_ (by omega)
  have hjm : j < m := by omega
  have c0 := hc j hjm
  have HC := Lib.hid hc
  have HRD := Lib.hid hrd
  obtain ⟨r0, hr0⟩ : ∃ r, x.getD j 0 = r := ⟨_, rfl⟩
  rw [hr0] at c0 hr
  obtain ⟨k0, hk0⟩ : ∃ k, cls false r0 = k := ⟨_, rfl⟩
  rw [hk0] at hr
  have HK0 := Lib.hid hk0
  clear hr0 hc hrd hok hm hxn hk0 h0
  by_cases hz : k0 = 0
  · have n0 : (k0 == 0) = true := by simp [hz]
    rw [if_pos hz] at hr
    subst hr
    clear hz
    go_enter Try.func50, Try.ntmps50
    go_upto_region 1 with fail
    rw [HW1.out]
    go_wp2_with (go_at_call 14; refine (rclass_any _ _ _).mono ?_; rintro e w' ⟨rfl, hw⟩; subst hw; rw [HK0.out])
    go_ret
    exact ⟨rfl, HB1.out⟩
  have n0 : (k0 == 0) = false := by simp [hz]
  rw [if_neg hz] at hr
  clear hz
  obtain ⟨bk, hbk⟩ : ∃ bk, backB x j = bk := ⟨_, rfl⟩
  have hbkj : bk ≤ j := by rw [← hbk]; exact backB_le x j
  rw [hbk] at hr
  have HBK := Lib.hid hbk
  clear hbk
  by_cases hb : 0 < bk
  · rw [if_pos hb] at hr
    have HSP : Hid (∀ w' : World, Calls Try.prog 57 #[.slice (some ⟨rb, ro, none⟩) m rc, .int .i64 (bk : Nat)] w1 fun e w' => e = .returned (.bool (stopB x bk)) ∧ w1 = w') := fun _ => rstop_any _ _ _ _ _ _ HRD.out (by omega)
    have HR := Lib.hid hr
    clear hr HPV
    go_enter Try.func50, Try.ntmps50
    go_upto_region 1 with fail
    rw [HW1.out]
    go_wp2_with (go_at_call 14; refine (rclass_any _ _ _).mono ?_; rintro e w' ⟨rfl, hw⟩; subst hw; rw [HK0.out])
    go_loopw [6] (fun iv wr => ∃ k : Nat, k ≤ j ∧ iv = .int .i64 (k : Nat) ∧ wr = w1 ∧ Hid (backB x k = bk)) (fun iv _ => (intOf iv).toNat)
    case atStart => exact ⟨j, Nat.le_refl _, rfl, rfl, HBK.out⟩
    case round =>
      obtain ⟨k, hkj, rfl, rfl, HI⟩ := hrel
      rcases Nat.eq_zero_or_pos k with hkp | hkp
      · have hb0 : bk = 0 := by rw [← HI.out, hkp]; rfl
        have g0 : ¬ (0 : Int) < (k : Int) := by omega
        clear hkp
        omega
      · obtain ⟨k', hk'⟩ : ∃ k', k = k' + 1 := ⟨k - 1, by omega⟩
        have hs := HI.out
        rw [hk', backB, ← hk'] at hs
        have c2 := HC.out k' (by omega)
        obtain ⟨r2, hr2⟩ : ∃ r, x.getD k' 0 = r := ⟨_, rfl⟩
        rw [hr2] at c2 hs
        obtain ⟨k2, hk2⟩ : ∃ v, cls false r2 = v := ⟨_, rfl⟩
        rw [hk2] at hs
        have HK2 := Lib.hid hk2
        have s1 : (k : Int) - 1 = (k' : Int) := by omega
        have g1 : (0 : Int) < (k : Int) := by omega
        have hk'm : k' < m := by omega
        have HKK := Lib.hid hk'
        clear hr2 hk2 HI hk'
        by_cases hz : k2 = 0
        · have n2 : (k2 == 0) = true := by simp [hz]
          rw [if_pos hz] at hs
          have HN := Lib.hid hs
          clear hs hz
          go_wp2_with (go_at_call 14; refine (rclass_any _ _ _).mono ?_; rintro e w' ⟨rfl, hw⟩; subst hw; rw [HK2.out])
          go_roundw
          case rel => exact ⟨k', by have := HKK.out; omega, by first | rfl | go_num, by first | rfl | trivial, HN⟩
          case measure => have := HKK.out; first | (simp [intOf]; omega) | simp [intOf]
        · have n2 : (k2 == 0) = false := by simp [hz]
          rw [if_neg hz] at hs
          clear hz
          subst hs
          by_cases hbj : k < j
          · have hr3 : r = stopB x k := by rw [← HR.out]; simp [hbj]
            have HR3 := Lib.hid hr3
            have gb2 : (k : Int) < (j : Int) := by omega
            clear hbj hr3
            go_wp2_with (first
              | (go_at_call 14; refine (rclass_any _ _ _).mono ?_; rintro e w' ⟨rfl, hw⟩; subst hw; rw [HK2.out])
              | (go_at_call 57; refine (HSP.out w).mono ?_; rintro e w' ⟨rfl, hw⟩; subst hw))
            go_ret
            exact ⟨by rw [HR3.out]; rfl, HB1.out⟩
          · have hr3 : r = false := by rw [← HR.out]; simp [hbj]
            have HR3 := Lib.hid hr3
            have gb2 : ¬ (k : Int) < (j : Int) := by omega
            clear hr3
            go_wp2_with (go_at_call 14; refine (rclass_any _ _ _).mono ?_; rintro e w' ⟨rfl, hw⟩; subst hw; rw [HK2.out])
            go_ret
            exact ⟨by rw [HR3.out]; exact ret_bool (by first | rfl | (simp; omega)), HB1.out⟩
  rw [if_neg hb] at hr
  have hb00 : bk = 0 := by omega
  rcases Nat.eq_zero_or_pos i with hi | hi
  · rw [if_pos (Or.inl hi)] at hr
    have q3 : ((i : Int) == 0) = true := by simp [hi]
    subst hr
    clear HPV hi
    go_enter Try.func50, Try.ntmps50
    go_upto_region 1 with fail
    rw [HW1.out]
    go_wp2_with (go_at_call 14; refine (rclass_any _ _ _).mono ?_; rintro e w' ⟨rfl, hw⟩; subst hw; rw [HK0.out])
    go_loopw [6] (fun iv wr => ∃ k : Nat, k ≤ j ∧ iv = .int .i64 (k : Nat) ∧ wr = w1 ∧ Hid (backB x k = bk)) (fun iv _ => (intOf iv).toNat)
    case atStart => exact ⟨j, Nat.le_refl _, rfl, rfl, HBK.out⟩
    case round =>
      obtain ⟨k, hkj, rfl, rfl, HI⟩ := hrel
      rcases Nat.eq_zero_or_pos k with hkp | hkp
      · have hb0 : bk = 0 := by rw [← HI.out, hkp]; rfl
        have g0 : ¬ (0 : Int) < (k : Int) := by omega
        clear hkp
        go_wp2
        go_ret
        exact ⟨rfl, HB1.out⟩
      · obtain ⟨k', hk'⟩ : ∃ k', k = k' + 1 := ⟨k - 1, by omega⟩
        have hs := HI.out
        rw [hk', backB, ← hk'] at hs
        have c2 := HC.out k' (by omega)
        obtain ⟨r2, hr2⟩ : ∃ r, x.getD k' 0 = r := ⟨_, rfl⟩
        rw [hr2] at c2 hs
        obtain ⟨k2, hk2⟩ : ∃ v, cls false r2 = v := ⟨_, rfl⟩
        rw [hk2] at hs
        have HK2 := Lib.hid hk2
        have s1 : (k : Int) - 1 = (k' : Int) := by omega
        have g1 : (0 : Int) < (k : Int) := by omega
        have hk'm : k' < m := by omega
        have HKK := Lib.hid hk'
        clear hr2 hk2 HI hk'
        by_cases hz : k2 = 0
        · have n2 : (k2 == 0) = true := by simp [hz]
          rw [if_pos hz] at hs
          have HN := Lib.hid hs
          clear hs hz
          go_wp2_with (go_at_call 14; refine (rclass_any _ _ _).mono ?_; rintro e w' ⟨rfl, hw⟩; subst hw; rw [HK2.out])
          go_roundw
          case rel => exact ⟨k', by have := HKK.out; omega, by first | rfl | go_num, by first | rfl | trivial, HN⟩
          case measure => have := HKK.out; first | (simp [intOf]; omega) | simp [intOf]
        · have n2 : (k2 == 0) = false := by simp [hz]
          rw [if_neg hz] at hs
          omega
  have q3 : ((i : Int) == 0) = false := by simp; omega
  obtain ⟨i0, hi0⟩ : ∃ i0, i = i0 + 1 := ⟨i - 1, by omega⟩
  obtain ⟨b', off', ya, yc, hbo, e1, hry⟩ := HPV.out i0 hi0
  cases hbo
  rw [show i - 1 = i0 by omega] at hr
  obtain ⟨y, hy⟩ : ∃ y, lnL L i0 = y := ⟨_, rfl⟩
  rw [hy] at hr e1 hry
  obtain ⟨my, hmy⟩ : ∃ my, y.length = my := ⟨_, rfl⟩
  rw [hmy] at hr e1 hry
  have hmys := hry.small
  have s3 : (i : Int) - 1 = (i0 : Int) := by omega
  have hin : i0 < n := by omega
  have HRY := Lib.hid hry
  have HMY := Lib.hid hmy
  clear hry HPV hy hmy hi0
  obtain ⟨bb, hbb⟩ : ∃ bb, blankL y = bb := ⟨_, rfl⟩
  rw [hbb] at hr
  have HBL : Hid (Calls Try.prog 58 #[.slice ya my yc] w1 fun e w' => e = .returned (.bool bb) ∧ w1 = w') := by
    have := rblank_any ya my yc y w1 HRY.out
    rw [hbb] at this
    exact this
  cases bb with
  | true =>
    rw [if_pos (Or.inr rfl)] at hr
    subst hr
    clear hbb hi
    go_enter Try.func50, Try.ntmps50
    go_upto_region 1 with fail
    rw [HW1.out]
    go_wp2_with (go_at_call 14; refine (rclass_any _ _ _).mono ?_; rintro e w' ⟨rfl, hw⟩; subst hw; rw [HK0.out])
    go_loopw [6] (fun iv wr => ∃ k : Nat, k ≤ j ∧ iv = .int .i64 (k : Nat) ∧ wr = w1 ∧ Hid (backB x k = bk)) (fun iv _ => (intOf iv).toNat)
    case atStart => exact ⟨j, Nat.le_refl _, rfl, rfl, HBK.out⟩
    case round =>
      obtain ⟨k, hkj, rfl, rfl, HI⟩ := hrel
      rcases Nat.eq_zero_or_pos k with hkp | hkp
      · have hb0 : bk = 0 := by rw [← HI.out, hkp]; rfl
        have g0 : ¬ (0 : Int) < (k : Int) := by omega
        clear hkp
        go_wp2_with (go_at_call 58; refine HBL.out.mono ?_; rintro e w' ⟨rfl, hw⟩; subst hw)
        go_ret
        exact ⟨rfl, HB1.out⟩
      · obtain ⟨k', hk'⟩ : ∃ k', k = k' + 1 := ⟨k - 1, by omega⟩
        have hs := HI.out
        rw [hk', backB, ← hk'] at hs
        have c2 := HC.out k' (by omega)
        obtain ⟨r2, hr2⟩ : ∃ r, x.getD k' 0 = r := ⟨_, rfl⟩
        rw [hr2] at c2 hs
        obtain ⟨k2, hk2⟩ : ∃ v, cls false r2 = v := ⟨_, rfl⟩
        rw [hk2] at hs
        have HK2 := Lib.hid hk2
        have s1 : (k : Int) - 1 = (k' : Int) := by omega
        have g1 : (0 : Int) < (k : Int) := by omega
        have hk'm : k' < m := by omega
        have HKK := Lib.hid hk'
        clear hr2 hk2 HI hk'
        by_cases hz : k2 = 0
        · have n2 : (k2 == 0) = true := by simp [hz]
          rw [if_pos hz] at hs
          have HN := Lib.hid hs
          clear hs hz
          go_wp2_with (go_at_call 14; refine (rclass_any _ _ _).mono ?_; rintro e w' ⟨rfl, hw⟩; subst hw; rw [HK2.out])
          go_roundw
          case rel => exact ⟨k', by have := HKK.out; omega, by first | rfl | go_num, by first | rfl | trivial, HN⟩
          case measure => have := HKK.out; first | (simp [intOf]; omega) | simp [intOf]
        · have n2 : (k2 == 0) = false := by simp [hz]
          rw [if_neg hz] at hs
          omega
  | false =>
    rw [if_neg (by rintro (h | h); omega; cases h)] at hr
    have hbp := blank_back hbb
    rw [HMY.out] at hbp
    obtain ⟨by_, hby⟩ : ∃ by_, backB y my = by_ := ⟨_, rfl⟩
    rw [hby] at hr hbp
    have hbym : by_ ≤ my := by rw [← hby]; exact backB_le y my
    have HBY := Lib.hid hby
    have hmyp : 0 < my := by omega
    obtain ⟨yb, yo, rfl, hyb, hcy⟩ := HRY.out.all_ hmyp
    have HCY := Lib.hid hcy
    have HSP : Hid (∀ w' : World, Calls Try.prog 57 #[.slice (some ⟨yb, yo, none⟩) my yc, .int .i64 (by_ : Nat)] w1 fun e w' => e = .returned (.bool r) ∧ w1 = w') := fun _ => by
      have := rstop_any _ _ _ _ by_ _ HRY.out hbym
      rw [hr] at this
      exact this
    clear hbb hi hr hby hcy
    go_enter Try.func50, Try.ntmps50
    go_upto_region 1 with fail
    rw [HW1.out]
    go_wp2_with (go_at_call 14; refine (rclass_any _ _ _).mono ?_; rintro e w' ⟨rfl, hw⟩; subst hw; rw [HK0.out])
    go_loopw [6] (fun iv wr => ∃ k : Nat, k ≤ j ∧ iv = .int .i64 (k : Nat) ∧ wr = w1 ∧ Hid (backB x k = bk)) (fun iv _ => (intOf iv).toNat)
    case atStart => exact ⟨j, Nat.le_refl _, rfl, rfl, HBK.out⟩
    case round =>
      obtain ⟨k, hkj, rfl, rfl, HI⟩ := hrel
      rcases Nat.eq_zero_or_pos k with hkp | hkp
      · have hb0 : bk = 0 := by rw [← HI.out, hkp]; rfl
        have g0 : ¬ (0 : Int) < (k : Int) := by omega
        clear hkp
        obtain ⟨wq, hwq⟩ : ∃ x, x = wr := ⟨_, rfl⟩
        subst hwq
        go_wp2_with (go_at_call 58; refine HBL.out.mono ?_; rintro e w' ⟨rfl, hw⟩; subst hw)
        go_loopw [8] (fun iv wr => ∃ k : Nat, 0 < k ∧ k ≤ my ∧ iv = .int .i64 (k : Nat) ∧ wr = wq ∧ Hid (backB y k = by_)) (fun iv _ => (intOf iv).toNat)
        case atStart => exact ⟨my, hmyp, Nat.le_refl _, rfl, by first | rfl | trivial, HBY.out⟩
        case round =>
          obtain ⟨k8, hkp, hkm, rfl, rfl, HI2⟩ := hrel
          obtain ⟨k', hk'⟩ : ∃ k', k8 = k' + 1 := ⟨k8 - 1, by omega⟩
          have hs := HI2.out
          rw [hk', backB, ← hk'] at hs
          have c2 := HCY.out k' (by omega)
          obtain ⟨r2, hr2⟩ : ∃ r, y.getD k' 0 = r := ⟨_, rfl⟩
          rw [hr2] at c2 hs
          obtain ⟨k2, hk2⟩ : ∃ v, cls false r2 = v := ⟨_, rfl⟩
          rw [hk2] at hs
          have HK2 := Lib.hid hk2
          have s1 : (k8 : Int) - 1 = (k' : Int) := by omega
          have hk'm : k' < my := by omega
          have HKK := Lib.hid hk'
          clear hr2 hk2 HI2 hk'
          by_cases hz : k2 = 0
          · have n2 : (k2 == 0) = true := by simp [hz]
            rw [if_pos hz] at hs
            have hk'0 : 0 < k' := by
              rcases Nat.eq_zero_or_pos k' with h | h
              · have : by_ = 0 := by rw [← hs, h]; rfl
                omega
              · exact h
            have HN := Lib.hid hs
            clear hs hz
            go_wp2_with (go_at_call 14; refine (rclass_any _ _ _).mono ?_; rintro e w' ⟨rfl, hw⟩; subst hw; rw [HK2.out])
            go_roundw
            case rel => exact ⟨k', hk'0, by have := HKK.out; omega, by first | rfl | go_num, by first | rfl | trivial, HN⟩
            case measure => have := HKK.out; first | (simp [intOf]; omega) | simp [intOf]
          · have n2 : (k2 == 0) = false := by simp [hz]
            rw [if_neg hz] at hs
            subst hs
            clear hz
            go_wp2_with (first
              | (go_at_call 14; refine (rclass_any _ _ _).mono ?_; rintro e w' ⟨rfl, hw⟩; subst hw; rw [HK2.out])
              | (go_at_call 57; refine (HSP.out w).mono ?_; rintro e w' ⟨rfl, hw⟩; subst hw))
            go_ret
            exact ⟨rfl, HB1.out⟩
      · obtain ⟨k', hk'⟩ : ∃ k', k = k' + 1 := ⟨k - 1, by omega⟩
        have hs := HI.out
        rw [hk', backB, ← hk'] at hs
        have c2 := HC.out k' (by omega)
        obtain ⟨r2, hr2⟩ : ∃ r, x.getD k' 0 = r := ⟨_, rfl⟩
        rw [hr2] at c2 hs
        obtain ⟨k2, hk2⟩ : ∃ v, cls false r2 = v := ⟨_, rfl⟩
        rw [hk2] at hs
        have HK2 := Lib.hid hk2
        have s1 : (k : Int) - 1 = (k' : Int) := by omega
        have g1 : (0 : Int) < (k : Int) := by omega
        have hk'm : k' < m := by omega
        have HKK := Lib.hid hk'
        clear hr2 hk2 HI hk'
        by_cases hz : k2 = 0
        · have n2 : (k2 == 0) = true := by simp [hz]
          rw [if_pos hz] at hs
          have HN := Lib.hid hs
          clear hs hz
          go_wp2_with (go_at_call 14; refine (rclass_any _ _ _).mono ?_; rintro e w' ⟨rfl, hw⟩; subst hw; rw [HK2.out])
          go_roundw
          case rel => exact ⟨k', by have := HKK.out; omega, by first | rfl | go_num, by first | rfl | trivial, HN⟩
          case measure => have := HKK.out; first | (simp [intOf]; omega) | simp [intOf]
        · have n2 : (k2 == 0) = false := by simp [hz]
          rw [if_neg hz] at hs
          omega
end Go.Proofs.Ytnegijbdgefaoaa.U
