/-
  The walk of ObjectWords, over the program's Find (FindC: a premise). (MADE by wip/tools/gen_bword.py.)
-/
import Derived.Test.YthlhgkeodaifcaaDoorBLines
namespace Go.Proofs.YthlhgkeodaifcaaDoor.U
open Go.RowKit
set_option linter.unusedVariables false
set_option linter.unusedSimpArgs false
set_option maxRecDepth 100000

theorem fdR_w {L : List (List Int)} {p : Pl} {big : Bool} (hL : L ≠ []) (hx : lnL L p.1 ≠ []) : fdR L p (if big = true then 87 else 119) false = ((p.1, (runC big (lnL L p.1) p.2).1), (p.1, (runC big (lnL L p.1) p.2).2), 0, true) := by
  unfold fdR
  rw [if_neg hL]
  have : fdP L p (if big = true then 87 else 119) false = some ((p.1, (runC big (lnL L p.1) p.2).1), (p.1, (runC big (lnL L p.1) p.2).2), 0) := by
    unfold fdP
    cases big with
    | true => simp [words_inner hx]
    | false => simp [words_inner hx]
  rw [this]
theorem fdR_w0 {L : List (List Int)} {p : Pl} {big : Bool} (hx : lnL L p.1 = []) : fdR L p (if big = true then 87 else 119) false = ((0, 0), (0, 0), 0, false) := by
  unfold fdR
  by_cases hL : L = []
  · rw [if_pos hL]
  · rw [if_neg hL]
    have : fdP L p (if big = true then 87 else 119) false = none := by
      unfold fdP
      cases big with
      | true => simp [hx, words_none]
      | false => simp [hx, words_none]
    rw [this]
set_option maxHeartbeats 8000000 in
theorem objectWords_wideM (HM : FindC 9) (a : Option Addr) (n c : Nat) (L : List (List Int)) (q : Po) (big : Bool) (W : World) (h : RdL (fun k => k < W.heap.size) W a n c L) (hq : i64p q) (hw : WideL L) (hg : Gl W) :
    Calls Tryd.prog 5 #[.slice a n c, q.v, .bool big] W fun e w' => e = .returned (.bool true) ∧ Below W.heap.size W w' := by
  obtain ⟨u, v⟩ := q
  show Calls Tryd.prog _ #[.slice a n c, .agg #[.int .i64 u, .int .i64 v], .bool big] W _
  have hl := h.len
  have hsm0 := h.small
  obtain ⟨w1, hw1, hsz1, g1, hb1⟩ := lone W (.cells #[.int .i64 u, .int .i64 v] 24)
  have h1 := h.below hb1
  have HSM : Hid (Calls Tryd.prog 8 #[.slice a n c] w1 fun e w' => e = .returned (.bool (smallO L)) ∧ Below w1.heap.size w1 w') := smallO_any _ a n c L w1 h1 hw
  have HAW : Hid (∀ w' : World, Below W.heap.size W w' → Calls Tryd.prog 11 #[] w' fun e w2 => e = .returned (.bool true) ∧ Below w'.heap.size w' w2) := fun w' hb => awake_any HM w' (hg.up hb)
  have HGW := Lib.hid hg
  clear hg
  obtain ⟨x0, x1, xf0, xf1⟩ := row2 g1
  have HW1 := Lib.hid hw1
  have HB1 := Lib.hid hb1
  have G1 := Lib.hid g1
  obtain ⟨sm, hsm⟩ : ∃ sm, smallO L = sm := ⟨_, rfl⟩
  rw [hsm] at HSM
  cases sm with
  | false =>
    clear h h1 hw1 hb1 g1 hsm hl
    go_enter Tryd.func5, Tryd.ntmps5
    go_upto_region 1 with fail
    rw [HW1.out]
    go_wp2_with (first
      | (go_at_call 8; refine HSM.out.mono ?_; rintro e w2 ⟨rfl, hb2⟩; obtain ⟨x0, x1, xf0, xf1⟩ := row2 ((hb2.block _ (Array.getElem?_eq_some_iff.1 G1.out).1).trans G1.out))
      | (go_at_call 11; refine (HAW.out _ (btr HB1.out hb2)).mono ?_; rintro e w9 ⟨rfl, hb9⟩))
    go_ret
    exact ⟨rfl, btr HB1.out (btr hb2 hb9)⟩
  | true =>
    by_cases hn0 : n = 0
    · have e0 : ((n : Int) == 0) = true := by simp; omega
      clear h h1 hw1 hb1 g1 hsm hl hn0
      go_enter Tryd.func5, Tryd.ntmps5
      go_upto_region 1 with fail
      rw [HW1.out]
      go_wp2_with (first
        | (go_at_call 8; refine HSM.out.mono ?_; rintro e w2 ⟨rfl, hb2⟩; obtain ⟨x0, x1, xf0, xf1⟩ := row2 ((hb2.block _ (Array.getElem?_eq_some_iff.1 G1.out).1).trans G1.out))
        | (go_at_call 11; refine (HAW.out _ (btr HB1.out hb2)).mono ?_; rintro e w9 ⟨rfl, hb9⟩))
      go_ret
      exact ⟨rfl, btr HB1.out (btr hb2 hb9)⟩
    have e0 : ((n : Int) == 0) = false := by simp; omega
    have hL : L ≠ [] := by rintro rfl; simp at hl; omega
    have hz := smallO_size hsm
    have hok := clipP_ok hL u v
    obtain ⟨⟨c1, c2⟩, hcp⟩ : ∃ p, clipP L u v = p := ⟨_, rfl⟩
    rw [hcp] at hok
    have HCL : Hid (∀ W', Below w1.heap.size w1 W' → Calls Tryd.prog 12 #[.slice a n c, .agg #[.int .i64 u, .int .i64 v]] W' fun e w' => e = .returned (.agg #[.int .i64 (c1 : Nat), .int .i64 (c2 : Nat)]) ∧ Below W'.heap.size W' w') := by
      intro W' hb
      have := rclip_any _ a n c L ⟨u, v⟩ W' (h1.below hb) hq
      simp only [hcp] at this
      exact this
    have hc1 : c1 < L.length := hok.1
    have hc1n : c1 < n := by omega
    have hc2 := hok.2
    simp only at hc2
    obtain ⟨b, off, ra, rc, rfl, -, hbl, l0, hrd⟩ := okP.line (p := (c1, c2)) h hok (Below.refl _ W)
    simp only at l0 hrd
    have hfd0 := fdR_w0 (L := L) (p := (c1, c2)) (big := big)
    have hfd1 := fdR_w (p := (c1, c2)) (big := big) hL
    obtain ⟨key, hkey⟩ : ∃ key : Int, (if big = true then 87 else 119 : Int) = key := ⟨_, rfl⟩
    rw [hkey] at hfd0 hfd1
    have hkb : i32b key := by rw [← hkey]; cases big <;> exact ⟨by decide, by decide⟩
    simp only at hfd0 hfd1
    obtain ⟨x, hxx⟩ : ∃ x, lnL L c1 = x := ⟨_, rfl⟩
    rw [hxx] at hfd0 hfd1 l0 hrd hc2
    obtain ⟨m, hm⟩ : ∃ m, x.length = m := ⟨_, rfl⟩
    rw [hm] at l0 hrd hc2
    have hms := hrd.small
    have hc2b : (c2 : Int) ≤ 9223372036854775807 := by omega
    have HFI : Hid (∀ W', Below W.heap.size W W' → Calls Tryd.prog 9 #[.slice (some ⟨b, off, none⟩) n c, .agg #[.int .i64 (c1 : Nat), .int .i64 (c2 : Nat)], .int .i32 key, .bool false] W' fun e w' => e = .returned (fdV (fdR L (c1, c2) key false)) ∧ Below W'.heap.size W' w') := by
      intro W' hb
      have := HM _ (some ⟨b, off, none⟩) n c L ⟨(c1 : Nat), (c2 : Nat)⟩ key false W' (HGW.out.up hb) (h.below hb) ⟨⟨by show _ ≤ (c1 : Int); omega, by show (c1 : Int) ≤ _; omega⟩, by show _ ≤ (c2 : Int); omega, hc2b⟩ hkb hz
      have he : clipP L ((c1 : Nat) : Int) ((c2 : Nat) : Int) = (c1, c2) := clipP_id hok
      simp only [he] at this
      exact this
    have HKEY := Lib.hid hkey
    have HRD := Lib.hid hrd
    have HM0 := Lib.hid hm
    have HBL := Lib.hid hbl
    have HL0 := Lib.hid l0
    have dC : ¬ (c1 : Int) < 0 := by omega
    have dD : decide ((c1 : Int) < 0) = false := by simp
    by_cases hm0 : m = 0
    · have hx0 : x = [] := List.eq_nil_of_length_eq_zero (by omega)
      have e1 : ((m : Int) == 0) = true := by simp; omega
      rw [hfd0 hx0] at HFI
      unfold fdV plV at HFI
      clear h h1 hw1 hb1 g1 hsm hl hz hok hcp hq hc1 hc2 hc2b hfd0 hfd1 hxx hm hrd hbl l0 hx0 hm0 hkey hkb
      go_enter Tryd.func5, Tryd.ntmps5
      go_upto_region 1 with fail
      rw [HW1.out]
      go_upto_region 4 with (first
        | (go_at_call 8; refine HSM.out.mono ?_; rintro e w2 ⟨rfl, hb2⟩; obtain ⟨x0, x1, xf0, xf1⟩ := row2 ((hb2.block _ (Array.getElem?_eq_some_iff.1 G1.out).1).trans G1.out))
        | (go_at_call 12; refine (HCL.out _ hb2).mono ?_; rintro e w3 ⟨rfl, hb3⟩; have hb13 := btr hb2 hb3; obtain ⟨x0, x1, xf0, xf1⟩ := row2 ((hb13.block _ (Array.getElem?_eq_some_iff.1 G1.out).1).trans G1.out)))
      obtain ⟨w4, hw4⟩ : ∃ w4, (w3.setCell ⟨W.heap.size, 0, none⟩ (.int .i64 (c1 : Nat))).setCell ⟨W.heap.size, 1, none⟩ (.int .i64 (c2 : Nat)) = w4 := ⟨_, rfl⟩
      have hat4 : At w4 W.heap.size (c1, c2) := by rw [← hw4]; exact heap_set (heap_set ((hb13.block _ (Array.getElem?_eq_some_iff.1 G1.out).1).trans G1.out) 0 _) 1 _
      have hB4 : Below W.heap.size W w4 := by rw [← hw4]; exact setCell_below (setCell_below (btr HB1.out hb13) _ _ _ (Nat.le_refl _)) _ _ _ (Nat.le_refl _)
      rw [hw4]
      have HFR : Hid (Below W.heap.size W w4) := hB4
      have l0 := (hB4.cell (p := ⟨b, off + c1, none⟩) HBL.out).trans HL0.out
      obtain ⟨x0, x1, xf0, xf1⟩ := row2 hat4
      simp only at x0 x1
      have HAT := Lib.hid hat4
      clear hw4 hat4 hB4 hb2 hb3 hb13
      cases big with
      | true =>
        have hk2 : (87 : Int) = key := HKEY.out
        subst hk2
        replace HFI : Hid (∀ W', Below W.heap.size W W' → Calls Tryd.prog 9 #[.slice (some ⟨b, off, none⟩) n c, .agg #[.int .i64 (c1 : Nat), .int .i64 (c2 : Nat)], .int .i32 87, .bool false] W' fun e w' => e = .returned (.tuple #[.agg #[.int .i64 0, .int .i64 0], .agg #[.int .i64 0, .int .i64 0], .int .i64 0, .bool false]) ∧ Below W'.heap.size W' w') := HFI
        go_upto_region 9 with (go_at_call 9; refine (HFI.out _ HFR.out).mono ?_; rintro e w5 ⟨rfl, hb5⟩)
        obtain ⟨w6, hw6, hsz6, g5, g6, hb6⟩ := ltwo w5 (.cells #[.int .i64 0, .int .i64 0] 24) (.cells #[.int .i64 0, .int .i64 0] 24)
        rw [hw6]
        have hb46 := btr hb5 hb6
        have HAT6 := HAT.out.keep (hb46.block _ HAT.out.lt)
        obtain ⟨x0, x1, xf0, xf1⟩ := row2 HAT6
        obtain ⟨y0, y1, -, -⟩ := row2 g5
        obtain ⟨z0, z1, -, -⟩ := row2 g6
        simp only at x0 x1
        have HB6 : Hid (Below W.heap.size W w6) := btr HFR.out hb46
        obtain ⟨S5, hS5⟩ : ∃ S, w5.heap.size = S := ⟨_, rfl⟩
        rw [hS5] at y0 y1 z0 z1
        rw [hS5]
        clear hw6 hsz6 g5 g6 hb6 hb5 hb46 HAT6 hS5
        go_wp2_with (go_at_call 11; refine (HAW.out _ HB6.out).mono ?_; rintro e w9 ⟨rfl, hb9⟩)
        go_ret
        exact ⟨rfl, btr HB6.out hb9⟩
      | false =>
        have hk2 : (119 : Int) = key := HKEY.out
        subst hk2
        replace HFI : Hid (∀ W', Below W.heap.size W W' → Calls Tryd.prog 9 #[.slice (some ⟨b, off, none⟩) n c, .agg #[.int .i64 (c1 : Nat), .int .i64 (c2 : Nat)], .int .i32 119, .bool false] W' fun e w' => e = .returned (.tuple #[.agg #[.int .i64 0, .int .i64 0], .agg #[.int .i64 0, .int .i64 0], .int .i64 0, .bool false]) ∧ Below W'.heap.size W' w') := HFI
        go_upto_region 9 with (go_at_call 9; refine (HFI.out _ HFR.out).mono ?_; rintro e w5 ⟨rfl, hb5⟩)
        obtain ⟨w6, hw6, hsz6, g5, g6, hb6⟩ := ltwo w5 (.cells #[.int .i64 0, .int .i64 0] 24) (.cells #[.int .i64 0, .int .i64 0] 24)
        rw [hw6]
        have hb46 := btr hb5 hb6
        have HAT6 := HAT.out.keep (hb46.block _ HAT.out.lt)
        obtain ⟨x0, x1, xf0, xf1⟩ := row2 HAT6
        obtain ⟨y0, y1, -, -⟩ := row2 g5
        obtain ⟨z0, z1, -, -⟩ := row2 g6
        simp only at x0 x1
        have HB6 : Hid (Below W.heap.size W w6) := btr HFR.out hb46
        obtain ⟨S5, hS5⟩ : ∃ S, w5.heap.size = S := ⟨_, rfl⟩
        rw [hS5] at y0 y1 z0 z1
        rw [hS5]
        clear hw6 hsz6 g5 g6 hb6 hb5 hb46 HAT6 hS5
        go_wp2_with (go_at_call 11; refine (HAW.out _ HB6.out).mono ?_; rintro e w9 ⟨rfl, hb9⟩)
        go_ret
        exact ⟨rfl, btr HB6.out hb9⟩
    · have hxne : x ≠ [] := by rintro rfl; simp at hm; omega
      have e1 : ((m : Int) == 0) = false := by simp; omega
      rw [hfd1 hxne] at HFI
      have hc2m : c2 < m := by omega
      obtain ⟨k1, k2, k3, k4, k5, k6⟩ := run_props (big := big) (x := x) (k := c2) (by omega)
      obtain ⟨⟨b1, b2⟩, hbb⟩ : ∃ y, runC big x c2 = y := ⟨_, rfl⟩
      rw [hbb] at HFI k1 k2 k3 k4 k5 k6
      simp only at HFI k1 k2 k3 k4 k5 k6
      rw [hm] at k3 k6
      unfold fdV plV at HFI
      simp only at HFI
      obtain ⟨kk, hkk⟩ : ∃ kk, clsAt big x c2 = kk := ⟨_, rfl⟩
      rw [hkk] at k4 k5 k6
      have HE4 : Hid (∀ k, b1 ≤ k → k ≤ b2 → cls big (x.getD k 0) = kk) := k4
      have HE5 : Hid (b1 = 0 ∨ cls big (x.getD (b1 - 1) 0) ≠ kk) := k5
      have HE6 : Hid (b2 + 1 = m ∨ cls big (x.getD (b2 + 1) 0) ≠ kk) := k6
      have HCE : Hid (∀ (i : Nat) (W' : World), i < m → Below W.heap.size W W' → ∃ rb ro, ra = some ⟨rb, ro, none⟩ ∧ W'.cell? ⟨rb, ro + i, none⟩ = some (.int .i32 (x.getD i 0))) := by
        intro i W' hi hb
        obtain ⟨rb, ro, e1, e2, e3⟩ := HRD.out.at_ (i := i) hi
        exact ⟨rb, ro, e1, (hb.cell (p := ⟨rb, ro + i, none⟩) e2).trans e3⟩
      clear h h1 hw1 hb1 g1 hsm hl hz hok hcp hq hc1 hc2 hc2b hfd0 hfd1 hxx hm hrd hbl l0 hbb k4 k5 k6 hkk hm0 hkey hkb
      go_enter Tryd.func5, Tryd.ntmps5
      go_upto_region 1 with fail
      rw [HW1.out]
      go_upto_region 4 with (first
        | (go_at_call 8; refine HSM.out.mono ?_; rintro e w2 ⟨rfl, hb2⟩; obtain ⟨x0, x1, xf0, xf1⟩ := row2 ((hb2.block _ (Array.getElem?_eq_some_iff.1 G1.out).1).trans G1.out))
        | (go_at_call 12; refine (HCL.out _ hb2).mono ?_; rintro e w3 ⟨rfl, hb3⟩; have hb13 := btr hb2 hb3; obtain ⟨x0, x1, xf0, xf1⟩ := row2 ((hb13.block _ (Array.getElem?_eq_some_iff.1 G1.out).1).trans G1.out)))
      obtain ⟨w4, hw4⟩ : ∃ w4, (w3.setCell ⟨W.heap.size, 0, none⟩ (.int .i64 (c1 : Nat))).setCell ⟨W.heap.size, 1, none⟩ (.int .i64 (c2 : Nat)) = w4 := ⟨_, rfl⟩
      have hat4 : At w4 W.heap.size (c1, c2) := by rw [← hw4]; exact heap_set (heap_set ((hb13.block _ (Array.getElem?_eq_some_iff.1 G1.out).1).trans G1.out) 0 _) 1 _
      have hB4 : Below W.heap.size W w4 := by rw [← hw4]; exact setCell_below (setCell_below (btr HB1.out hb13) _ _ _ (Nat.le_refl _)) _ _ _ (Nat.le_refl _)
      rw [hw4]
      have HFR : Hid (Below W.heap.size W w4) := hB4
      have l0 := (hB4.cell (p := ⟨b, off + c1, none⟩) HBL.out).trans HL0.out
      obtain ⟨x0, x1, xf0, xf1⟩ := row2 hat4
      simp only at x0 x1
      have HAT := Lib.hid hat4
      clear hw4 hat4 hB4 hb2 hb3 hb13
      cases big with
      | true =>
        have hk2 : (87 : Int) = key := HKEY.out
        subst hk2
        replace HFI : Hid (∀ W', Below W.heap.size W W' → Calls Tryd.prog 9 #[.slice (some ⟨b, off, none⟩) n c, .agg #[.int .i64 (c1 : Nat), .int .i64 (c2 : Nat)], .int .i32 87, .bool false] W' fun e w' => e = .returned (.tuple #[.agg #[.int .i64 (c1 : Nat), .int .i64 (b1 : Nat)], .agg #[.int .i64 (c1 : Nat), .int .i64 (b2 : Nat)], .int .i64 0, .bool true]) ∧ Below W'.heap.size W' w') := HFI
        go_upto_region 9 with (go_at_call 9; refine (HFI.out _ HFR.out).mono ?_; rintro e w5 ⟨rfl, hb5⟩)
        obtain ⟨w6, hw6, hsz6, g5, g6, hb6⟩ := ltwo w5 (.cells #[.int .i64 (c1 : Nat), .int .i64 (b1 : Nat)] 24) (.cells #[.int .i64 (c1 : Nat), .int .i64 (b2 : Nat)] 24)
        rw [hw6]
        have hb46 := btr hb5 hb6
        have HAT6 := HAT.out.keep (hb46.block _ HAT.out.lt)
        obtain ⟨x0, x1, xf0, xf1⟩ := row2 HAT6
        obtain ⟨y0, y1, -, -⟩ := row2 g5
        obtain ⟨z0, z1, -, -⟩ := row2 g6
        simp only at x0 x1
        have HB6 : Hid (Below W.heap.size W w6) := btr HFR.out hb46
        obtain ⟨S5, hS5⟩ : ∃ S, w5.heap.size = S := ⟨_, rfl⟩
        rw [hS5] at y0 y1 z0 z1
        rw [hS5]
        clear hw6 hsz6 g5 g6 hb6 hb5 hb46 HAT6 hS5
        have d1 : ¬ (b1 : Int) < 0 := by omega
        have d2 : decide ((b1 : Int) < 0) = false := by simp
        have d3 : ¬ (c2 : Int) < (b1 : Int) := by omega
        have d4 : decide ((c2 : Int) < (b1 : Int)) = false := by simp; omega
        have d5 : decide (c2 < b1) = false := by simp; omega
        have d6 : ¬ (b2 : Int) < (c2 : Int) := by omega
        have d7 : decide ((b2 : Int) < (c2 : Int)) = false := by simp; omega
        have d8 : decide (b2 < c2) = false := by simp; omega
        have d9 : ¬ (m : Int) ≤ (b2 : Int) := by omega
        have dA : decide ((m : Int) ≤ (b2 : Int)) = false := by simp; omega
        have dB : decide (m ≤ b2) = false := by simp; omega
        have dE : ¬ (c2 : Int) < 0 := by omega
        have dF : decide ((c2 : Int) < 0) = false := by simp
        have hb1c : b1 ≤ c2 := k1
        have hcb2 : c2 ≤ b2 := k2
        obtain ⟨rb, ro, rfl, q0⟩ := HCE.out c2 w6 (by omega) HB6.out
        obtain ⟨r0, hr0⟩ : ∃ r, x.getD c2 0 = r := ⟨_, rfl⟩
        rw [hr0] at q0
        have q1 := HE4.out c2 hb1c hcb2
        rw [hr0] at q1
        clear hr0
        go_wp2_with (go_at_call 14; refine (rclass_any _ _ _).mono ?_; rintro e w' ⟨rfl, hw⟩; subst hw)
        go_loopw [14] (fun v14 wr => ∃ i : Nat, v14 = .int .i64 (i : Nat) ∧ b1 ≤ i ∧ i ≤ b2 + 1 ∧ wr = w6) (fun v14 _ => b2 + 1 - (intOf v14).toNat)
        case atStart => exact ⟨b1, rfl, Nat.le_refl _, by omega, rfl⟩
        case round =>
          obtain ⟨i, rfl, hi1, hi2, rfl⟩ := hrel
          by_cases hi : i ≤ b2
          · obtain ⟨rb', ro', he1, m0⟩ := HCE.out i wr (by omega) HB6.out
            cases he1
            obtain ⟨ri, hri⟩ : ∃ r, x.getD i 0 = r := ⟨_, rfl⟩
            have m1 := HE4.out i hi1 hi
            rw [hri] at m0 m1
            have p0 : (i : Int) ≤ (b2 : Int) := by omega
            have p1 : decide ((i : Int) ≤ (b2 : Int)) = true := by simp; omega
            have p2 : decide (i ≤ b2) = true := by simp; omega
            have p3 : ¬ (i : Int) < 0 := by omega
            have p4 : decide ((i : Int) < 0) = false := by simp
            have p5 : i < m := by omega
            clear hri
            go_wp2_with (go_at_call 14; refine (rclass_any _ _ _).mono ?_; rintro e w' ⟨rfl, hw⟩; subst hw)
            go_roundw
            case rel => exact ⟨i + 1, by go_num, by omega, by omega, by first | rfl | trivial⟩
            case measure => simp [intOf]; omega
          · have t0 : ¬ (i : Int) ≤ (b2 : Int) := by omega
            have t1 : decide ((i : Int) ≤ (b2 : Int)) = false := by simp; omega
            have t2 : decide (i ≤ b2) = false := by simp; omega
            clear hi1 hi2
            by_cases hlo : b1 = 0 <;> by_cases hhi : b2 + 1 = m
            · have p0 : ((b1 : Int) == 0) = true := by simp [hlo]
              obtain ⟨n1, hn1⟩ : ∃ n1, m - 1 = n1 := ⟨_, rfl⟩
              have r2 : (m : Int) - 1 = (n1 : Int) := by omega
              have r3 : ((b2 : Int) == (n1 : Int)) = true := by simp; omega
              have hw0 : IntKind.i64.wrap (n1 : Int) = (n1 : Int) := by rw [IntKind.wrap_i64]; omega
              clear hn1 hhi hlo hi
              go_wp2_with (first
                | (go_at_call 14; refine (rclass_any _ _ _).mono ?_; rintro e w' ⟨rfl, hw⟩; subst hw)
                | (go_at_call 11; refine (HAW.out _ HB6.out).mono ?_; rintro e w9 ⟨rfl, hb9⟩))
              go_ret
              exact ⟨rfl, btr HB6.out hb9⟩
            · have p0 : ((b1 : Int) == 0) = true := by simp [hlo]
              obtain ⟨n1, hn1⟩ : ∃ n1, m - 1 = n1 := ⟨_, rfl⟩
              have r2 : (m : Int) - 1 = (n1 : Int) := by omega
              have r5 := (HE6.out).resolve_left hhi
              have r3 : ((b2 : Int) == (n1 : Int)) = false := by simp; omega
              obtain ⟨f, hf⟩ : ∃ f, b2 + 1 = f := ⟨_, rfl⟩
              obtain ⟨rb', ro', he2, m2⟩ := HCE.out f wr (by omega) HB6.out
              cases he2
              rw [hf] at r5
              obtain ⟨rf, hrf⟩ : ∃ r, x.getD f 0 = r := ⟨_, rfl⟩
              rw [hrf] at m2 r5
              obtain ⟨kf, hkf⟩ : ∃ k, cls true rf = k := ⟨_, rfl⟩
              rw [hkf] at r5
              have r4 : (kf != kk) = true := by simp [r5]
              have r6 : (b2 : Int) + 1 = (f : Int) := by omega
              have r7 : ¬ (f : Int) < 0 := by omega
              have r8 : decide ((f : Int) < 0) = false := by simp
              have r9 : f < m := by omega
              have rA : IntKind.i64.wrap (f : Int) = (f : Int) := by rw [IntKind.wrap_i64]; omega
              have hw0 : IntKind.i64.wrap (n1 : Int) = (n1 : Int) := by rw [IntKind.wrap_i64]; omega
              clear hn1 hf hhi r5 hrf hlo hi
              go_wp2_with (first
                | (go_at_call 14; refine (rclass_any _ _ _).mono ?_; rintro e w' ⟨rfl, hw⟩; subst hw)
                | (go_at_call 11; refine (HAW.out _ HB6.out).mono ?_; rintro e w9 ⟨rfl, hb9⟩))
              go_ret
              exact ⟨rfl, btr HB6.out hb9⟩
            · have p0 : ((b1 : Int) == 0) = false := by simp [hlo]
              have p1 := (HE5.out).resolve_left hlo
              obtain ⟨d, hd⟩ : ∃ d, b1 - 1 = d := ⟨_, rfl⟩
              obtain ⟨rb', ro', he1, m0⟩ := HCE.out d wr (by omega) HB6.out
              cases he1
              rw [hd] at p1
              obtain ⟨rd, hrd⟩ : ∃ r, x.getD d 0 = r := ⟨_, rfl⟩
              rw [hrd] at m0 p1
              obtain ⟨kd, hkd⟩ : ∃ k, cls true rd = k := ⟨_, rfl⟩
              rw [hkd] at p1
              have p7 : (kd != kk) = true := by simp [p1]
              have p2 : (b1 : Int) - 1 = (d : Int) := by omega
              have p3 : ¬ (d : Int) < 0 := by omega
              have p4 : decide ((d : Int) < 0) = false := by simp
              have p5 : d < m := by omega
              have p6 : IntKind.i64.wrap (d : Int) = (d : Int) := by rw [IntKind.wrap_i64]; omega
              obtain ⟨n1, hn1⟩ : ∃ n1, m - 1 = n1 := ⟨_, rfl⟩
              have r2 : (m : Int) - 1 = (n1 : Int) := by omega
              have r3 : ((b2 : Int) == (n1 : Int)) = true := by simp; omega
              have hw0 : IntKind.i64.wrap (n1 : Int) = (n1 : Int) := by rw [IntKind.wrap_i64]; omega
              clear hd p1 hrd hn1 hhi hlo hi
              go_wp2_with (first
                | (go_at_call 14; refine (rclass_any _ _ _).mono ?_; rintro e w' ⟨rfl, hw⟩; subst hw)
                | (go_at_call 11; refine (HAW.out _ HB6.out).mono ?_; rintro e w9 ⟨rfl, hb9⟩))
              go_ret
              exact ⟨rfl, btr HB6.out hb9⟩
            · have p0 : ((b1 : Int) == 0) = false := by simp [hlo]
              have p1 := (HE5.out).resolve_left hlo
              obtain ⟨d, hd⟩ : ∃ d, b1 - 1 = d := ⟨_, rfl⟩
              obtain ⟨rb', ro', he1, m0⟩ := HCE.out d wr (by omega) HB6.out
              cases he1
              rw [hd] at p1
              obtain ⟨rd, hrd⟩ : ∃ r, x.getD d 0 = r := ⟨_, rfl⟩
              rw [hrd] at m0 p1
              obtain ⟨kd, hkd⟩ : ∃ k, cls true rd = k := ⟨_, rfl⟩
              rw [hkd] at p1
              have p7 : (kd != kk) = true := by simp [p1]
              have p2 : (b1 : Int) - 1 = (d : Int) := by omega
              have p3 : ¬ (d : Int) < 0 := by omega
              have p4 : decide ((d : Int) < 0) = false := by simp
              have p5 : d < m := by omega
              have p6 : IntKind.i64.wrap (d : Int) = (d : Int) := by rw [IntKind.wrap_i64]; omega
              obtain ⟨n1, hn1⟩ : ∃ n1, m - 1 = n1 := ⟨_, rfl⟩
              have r2 : (m : Int) - 1 = (n1 : Int) := by omega
              have r5 := (HE6.out).resolve_left hhi
              have r3 : ((b2 : Int) == (n1 : Int)) = false := by simp; omega
              obtain ⟨f, hf⟩ : ∃ f, b2 + 1 = f := ⟨_, rfl⟩
              obtain ⟨rb', ro', he2, m2⟩ := HCE.out f wr (by omega) HB6.out
              cases he2
              rw [hf] at r5
              obtain ⟨rf, hrf⟩ : ∃ r, x.getD f 0 = r := ⟨_, rfl⟩
              rw [hrf] at m2 r5
              obtain ⟨kf, hkf⟩ : ∃ k, cls true rf = k := ⟨_, rfl⟩
              rw [hkf] at r5
              have r4 : (kf != kk) = true := by simp [r5]
              have r6 : (b2 : Int) + 1 = (f : Int) := by omega
              have r7 : ¬ (f : Int) < 0 := by omega
              have r8 : decide ((f : Int) < 0) = false := by simp
              have r9 : f < m := by omega
              have rA : IntKind.i64.wrap (f : Int) = (f : Int) := by rw [IntKind.wrap_i64]; omega
              have hw0 : IntKind.i64.wrap (n1 : Int) = (n1 : Int) := by rw [IntKind.wrap_i64]; omega
              clear hd p1 hrd hn1 hf hhi r5 hrf hlo hi
              go_wp2_with (first
                | (go_at_call 14; refine (rclass_any _ _ _).mono ?_; rintro e w' ⟨rfl, hw⟩; subst hw)
                | (go_at_call 11; refine (HAW.out _ HB6.out).mono ?_; rintro e w9 ⟨rfl, hb9⟩))
              go_ret
              exact ⟨rfl, btr HB6.out hb9⟩
      | false =>
        have hk2 : (119 : Int) = key := HKEY.out
        subst hk2
        replace HFI : Hid (∀ W', Below W.heap.size W W' → Calls Tryd.prog 9 #[.slice (some ⟨b, off, none⟩) n c, .agg #[.int .i64 (c1 : Nat), .int .i64 (c2 : Nat)], .int .i32 119, .bool false] W' fun e w' => e = .returned (.tuple #[.agg #[.int .i64 (c1 : Nat), .int .i64 (b1 : Nat)], .agg #[.int .i64 (c1 : Nat), .int .i64 (b2 : Nat)], .int .i64 0, .bool true]) ∧ Below W'.heap.size W' w') := HFI
        go_upto_region 9 with (go_at_call 9; refine (HFI.out _ HFR.out).mono ?_; rintro e w5 ⟨rfl, hb5⟩)
        obtain ⟨w6, hw6, hsz6, g5, g6, hb6⟩ := ltwo w5 (.cells #[.int .i64 (c1 : Nat), .int .i64 (b1 : Nat)] 24) (.cells #[.int .i64 (c1 : Nat), .int .i64 (b2 : Nat)] 24)
        rw [hw6]
        have hb46 := btr hb5 hb6
        have HAT6 := HAT.out.keep (hb46.block _ HAT.out.lt)
        obtain ⟨x0, x1, xf0, xf1⟩ := row2 HAT6
        obtain ⟨y0, y1, -, -⟩ := row2 g5
        obtain ⟨z0, z1, -, -⟩ := row2 g6
        simp only at x0 x1
        have HB6 : Hid (Below W.heap.size W w6) := btr HFR.out hb46
        obtain ⟨S5, hS5⟩ : ∃ S, w5.heap.size = S := ⟨_, rfl⟩
        rw [hS5] at y0 y1 z0 z1
        rw [hS5]
        clear hw6 hsz6 g5 g6 hb6 hb5 hb46 HAT6 hS5
        have d1 : ¬ (b1 : Int) < 0 := by omega
        have d2 : decide ((b1 : Int) < 0) = false := by simp
        have d3 : ¬ (c2 : Int) < (b1 : Int) := by omega
        have d4 : decide ((c2 : Int) < (b1 : Int)) = false := by simp; omega
        have d5 : decide (c2 < b1) = false := by simp; omega
        have d6 : ¬ (b2 : Int) < (c2 : Int) := by omega
        have d7 : decide ((b2 : Int) < (c2 : Int)) = false := by simp; omega
        have d8 : decide (b2 < c2) = false := by simp; omega
        have d9 : ¬ (m : Int) ≤ (b2 : Int) := by omega
        have dA : decide ((m : Int) ≤ (b2 : Int)) = false := by simp; omega
        have dB : decide (m ≤ b2) = false := by simp; omega
        have dE : ¬ (c2 : Int) < 0 := by omega
        have dF : decide ((c2 : Int) < 0) = false := by simp
        have hb1c : b1 ≤ c2 := k1
        have hcb2 : c2 ≤ b2 := k2
        obtain ⟨rb, ro, rfl, q0⟩ := HCE.out c2 w6 (by omega) HB6.out
        obtain ⟨r0, hr0⟩ : ∃ r, x.getD c2 0 = r := ⟨_, rfl⟩
        rw [hr0] at q0
        have q1 := HE4.out c2 hb1c hcb2
        rw [hr0] at q1
        clear hr0
        go_wp2_with (go_at_call 14; refine (rclass_any _ _ _).mono ?_; rintro e w' ⟨rfl, hw⟩; subst hw)
        go_loopw [14] (fun v14 wr => ∃ i : Nat, v14 = .int .i64 (i : Nat) ∧ b1 ≤ i ∧ i ≤ b2 + 1 ∧ wr = w6) (fun v14 _ => b2 + 1 - (intOf v14).toNat)
        case atStart => exact ⟨b1, rfl, Nat.le_refl _, by omega, rfl⟩
        case round =>
          obtain ⟨i, rfl, hi1, hi2, rfl⟩ := hrel
          by_cases hi : i ≤ b2
          · obtain ⟨rb', ro', he1, m0⟩ := HCE.out i wr (by omega) HB6.out
            cases he1
            obtain ⟨ri, hri⟩ : ∃ r, x.getD i 0 = r := ⟨_, rfl⟩
            have m1 := HE4.out i hi1 hi
            rw [hri] at m0 m1
            have p0 : (i : Int) ≤ (b2 : Int) := by omega
            have p1 : decide ((i : Int) ≤ (b2 : Int)) = true := by simp; omega
            have p2 : decide (i ≤ b2) = true := by simp; omega
            have p3 : ¬ (i : Int) < 0 := by omega
            have p4 : decide ((i : Int) < 0) = false := by simp
            have p5 : i < m := by omega
            clear hri
            go_wp2_with (go_at_call 14; refine (rclass_any _ _ _).mono ?_; rintro e w' ⟨rfl, hw⟩; subst hw)
            go_roundw
            case rel => exact ⟨i + 1, by go_num, by omega, by omega, by first | rfl | trivial⟩
            case measure => simp [intOf]; omega
          · have t0 : ¬ (i : Int) ≤ (b2 : Int) := by omega
            have t1 : decide ((i : Int) ≤ (b2 : Int)) = false := by simp; omega
            have t2 : decide (i ≤ b2) = false := by simp; omega
            clear hi1 hi2
            by_cases hlo : b1 = 0 <;> by_cases hhi : b2 + 1 = m
            · have p0 : ((b1 : Int) == 0) = true := by simp [hlo]
              obtain ⟨n1, hn1⟩ : ∃ n1, m - 1 = n1 := ⟨_, rfl⟩
              have r2 : (m : Int) - 1 = (n1 : Int) := by omega
              have r3 : ((b2 : Int) == (n1 : Int)) = true := by simp; omega
              have hw0 : IntKind.i64.wrap (n1 : Int) = (n1 : Int) := by rw [IntKind.wrap_i64]; omega
              clear hn1 hhi hlo hi
              go_wp2_with (first
                | (go_at_call 14; refine (rclass_any _ _ _).mono ?_; rintro e w' ⟨rfl, hw⟩; subst hw)
                | (go_at_call 11; refine (HAW.out _ HB6.out).mono ?_; rintro e w9 ⟨rfl, hb9⟩))
              go_ret
              exact ⟨rfl, btr HB6.out hb9⟩
            · have p0 : ((b1 : Int) == 0) = true := by simp [hlo]
              obtain ⟨n1, hn1⟩ : ∃ n1, m - 1 = n1 := ⟨_, rfl⟩
              have r2 : (m : Int) - 1 = (n1 : Int) := by omega
              have r5 := (HE6.out).resolve_left hhi
              have r3 : ((b2 : Int) == (n1 : Int)) = false := by simp; omega
              obtain ⟨f, hf⟩ : ∃ f, b2 + 1 = f := ⟨_, rfl⟩
              obtain ⟨rb', ro', he2, m2⟩ := HCE.out f wr (by omega) HB6.out
              cases he2
              rw [hf] at r5
              obtain ⟨rf, hrf⟩ : ∃ r, x.getD f 0 = r := ⟨_, rfl⟩
              rw [hrf] at m2 r5
              obtain ⟨kf, hkf⟩ : ∃ k, cls false rf = k := ⟨_, rfl⟩
              rw [hkf] at r5
              have r4 : (kf != kk) = true := by simp [r5]
              have r6 : (b2 : Int) + 1 = (f : Int) := by omega
              have r7 : ¬ (f : Int) < 0 := by omega
              have r8 : decide ((f : Int) < 0) = false := by simp
              have r9 : f < m := by omega
              have rA : IntKind.i64.wrap (f : Int) = (f : Int) := by rw [IntKind.wrap_i64]; omega
              have hw0 : IntKind.i64.wrap (n1 : Int) = (n1 : Int) := by rw [IntKind.wrap_i64]; omega
              clear hn1 hf hhi r5 hrf hlo hi
              go_wp2_with (first
                | (go_at_call 14; refine (rclass_any _ _ _).mono ?_; rintro e w' ⟨rfl, hw⟩; subst hw)
                | (go_at_call 11; refine (HAW.out _ HB6.out).mono ?_; rintro e w9 ⟨rfl, hb9⟩))
              go_ret
              exact ⟨rfl, btr HB6.out hb9⟩
            · have p0 : ((b1 : Int) == 0) = false := by simp [hlo]
              have p1 := (HE5.out).resolve_left hlo
              obtain ⟨d, hd⟩ : ∃ d, b1 - 1 = d := ⟨_, rfl⟩
              obtain ⟨rb', ro', he1, m0⟩ := HCE.out d wr (by omega) HB6.out
              cases he1
              rw [hd] at p1
              obtain ⟨rd, hrd⟩ : ∃ r, x.getD d 0 = r := ⟨_, rfl⟩
              rw [hrd] at m0 p1
              obtain ⟨kd, hkd⟩ : ∃ k, cls false rd = k := ⟨_, rfl⟩
              rw [hkd] at p1
              have p7 : (kd != kk) = true := by simp [p1]
              have p2 : (b1 : Int) - 1 = (d : Int) := by omega
              have p3 : ¬ (d : Int) < 0 := by omega
              have p4 : decide ((d : Int) < 0) = false := by simp
              have p5 : d < m := by omega
              have p6 : IntKind.i64.wrap (d : Int) = (d : Int) := by rw [IntKind.wrap_i64]; omega
              obtain ⟨n1, hn1⟩ : ∃ n1, m - 1 = n1 := ⟨_, rfl⟩
              have r2 : (m : Int) - 1 = (n1 : Int) := by omega
              have r3 : ((b2 : Int) == (n1 : Int)) = true := by simp; omega
              have hw0 : IntKind.i64.wrap (n1 : Int) = (n1 : Int) := by rw [IntKind.wrap_i64]; omega
              clear hd p1 hrd hn1 hhi hlo hi
              go_wp2_with (first
                | (go_at_call 14; refine (rclass_any _ _ _).mono ?_; rintro e w' ⟨rfl, hw⟩; subst hw)
                | (go_at_call 11; refine (HAW.out _ HB6.out).mono ?_; rintro e w9 ⟨rfl, hb9⟩))
              go_ret
              exact ⟨rfl, btr HB6.out hb9⟩
            · have p0 : ((b1 : Int) == 0) = false := by simp [hlo]
              have p1 := (HE5.out).resolve_left hlo
              obtain ⟨d, hd⟩ : ∃ d, b1 - 1 = d := ⟨_, rfl⟩
              obtain ⟨rb', ro', he1, m0⟩ := HCE.out d wr (by omega) HB6.out
              cases he1
              rw [hd] at p1
              obtain ⟨rd, hrd⟩ : ∃ r, x.getD d 0 = r := ⟨_, rfl⟩
              rw [hrd] at m0 p1
              obtain ⟨kd, hkd⟩ : ∃ k, cls false rd = k := ⟨_, rfl⟩
              rw [hkd] at p1
              have p7 : (kd != kk) = true := by simp [p1]
              have p2 : (b1 : Int) - 1 = (d : Int) := by omega
              have p3 : ¬ (d : Int) < 0 := by omega
              have p4 : decide ((d : Int) < 0) = false := by simp
              have p5 : d < m := by omega
              have p6 : IntKind.i64.wrap (d : Int) = (d : Int) := by rw [IntKind.wrap_i64]; omega
              obtain ⟨n1, hn1⟩ : ∃ n1, m - 1 = n1 := ⟨_, rfl⟩
              have r2 : (m : Int) - 1 = (n1 : Int) := by omega
              have r5 := (HE6.out).resolve_left hhi
              have r3 : ((b2 : Int) == (n1 : Int)) = false := by simp; omega
              obtain ⟨f, hf⟩ : ∃ f, b2 + 1 = f := ⟨_, rfl⟩
              obtain ⟨rb', ro', he2, m2⟩ := HCE.out f wr (by omega) HB6.out
              cases he2
              rw [hf] at r5
              obtain ⟨rf, hrf⟩ : ∃ r, x.getD f 0 = r := ⟨_, rfl⟩
              rw [hrf] at m2 r5
              obtain ⟨kf, hkf⟩ : ∃ k, cls false rf = k := ⟨_, rfl⟩
              rw [hkf] at r5
              have r4 : (kf != kk) = true := by simp [r5]
              have r6 : (b2 : Int) + 1 = (f : Int) := by omega
              have r7 : ¬ (f : Int) < 0 := by omega
              have r8 : decide ((f : Int) < 0) = false := by simp
              have r9 : f < m := by omega
              have rA : IntKind.i64.wrap (f : Int) = (f : Int) := by rw [IntKind.wrap_i64]; omega
              have hw0 : IntKind.i64.wrap (n1 : Int) = (n1 : Int) := by rw [IntKind.wrap_i64]; omega
              clear hd p1 hrd hn1 hf hhi r5 hrf hlo hi
              go_wp2_with (first
                | (go_at_call 14; refine (rclass_any _ _ _).mono ?_; rintro e w' ⟨rfl, hw⟩; subst hw)
                | (go_at_call 11; refine (HAW.out _ HB6.out).mono ?_; rintro e w9 ⟨rfl, hb9⟩))
              go_ret
              exact ⟨rfl, btr HB6.out hb9⟩
end Go.Proofs.YthlhgkeodaifcaaDoor.U
