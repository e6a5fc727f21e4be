/-
  The document's Begins, Ends.
-/
import Derived.Test.YtnegijbdgefaoaaNClip
namespace Go.Proofs.Ytnegijbdgefaoaa.U
open Go.RowKit
set_option linter.unusedVariables false
set_option linter.unusedSimpArgs false
set_option maxRecDepth 100000

/-- the line of a place, and the runes beside it -/
theorem okP.line {F : Nat → Prop} {w : World} {a : Option Addr} {n c : Nat} {L : List (List Int)} {p : Pl} (h : RdL F w a n c L) (hp : okP L p) {W : World} (hb : Below w.heap.size w W) :
    ∃ b off ra rc, a = some ⟨b, off, none⟩ ∧ p.1 < n ∧ b < w.heap.size ∧ W.cell? ⟨b, off + p.1, none⟩ = some (.slice ra (lnL L p.1).length rc) ∧ Rd .i32 W ra (lnL L p.1).length rc (lnL L p.1) := by
  have hl := h.len
  have hlt := hp.1
  have hx : L[p.1]? = some (lnL L p.1) := by unfold lnL; rw [List.getD_eq_getElem?_getD, List.getElem?_eq_getElem hlt]; rfl
  obtain ⟨b, off, ra, rc, rfl, hbl, hF, e0, hrd, -, -⟩ := h.get hb hx
  exact ⟨b, off, ra, rc, rfl, by omega, hbl, e0, hrd⟩
theorem Rd.at_ {w : World} {a : Option Addr} {n c : Nat} {p : List Int} (h : Rd .i32 w a n c p) {i : Nat} (hi : i < n) : ∃ b off, a = some ⟨b, off, none⟩ ∧ b < w.heap.size ∧ w.cell? ⟨b, off + i, none⟩ = some (.int .i32 (p.getD i 0)) := by
  obtain ⟨h1, h2, h3, h4, h6, h5⟩ := h
  obtain ⟨b, off, rfl, hc⟩ := h5 (by omega)
  exact ⟨b, off, rfl, block_lt_of_cell (hc i hi), hc i hi⟩
theorem Rd.all_ {w : World} {a : Option Addr} {n c : Nat} {p : List Int} (h : Rd .i32 w a n c p) (hn : 0 < n) : ∃ b off, a = some ⟨b, off, none⟩ ∧ b < w.heap.size ∧ ∀ i, i < n → w.cell? ⟨b, off + i, none⟩ = some (.int .i32 (p.getD i 0)) := by
  obtain ⟨h1, h2, h3, h4, h6, h5⟩ := h
  obtain ⟨b, off, rfl, hc⟩ := h5 (by omega)
  exact ⟨b, off, rfl, block_lt_of_cell (hc 0 hn), hc⟩

set_option maxHeartbeats 1000000 in
theorem rbegins_any (F : Nat → Prop) (a : Option Addr) (n c : Nat) (L : List (List Int)) (p : Pl) (big : Bool) (w : World) (h : RdL F w a n c L) (hp : okP L p) :
    Calls Try.prog 26 #[.slice a n c, plV p, .bool big] w fun e w' => e = .returned (.bool (begins big (lnL L p.1) p.2)) ∧ Below w.heap.size w w' := by
  have hsm := h.small
  obtain ⟨w1, hw1⟩ : ∃ w1, w.alloc (.cells #[.int .i64 (p.1 : Nat), .int .i64 (p.2 : Nat)] 24) = w1 := ⟨_, rfl⟩
  have hb1 : Below w.heap.size w w1 := by rw [← hw1]; exact bal _ _
  have g1 : w1.heap[w.heap.size]? = some (.cells #[.int .i64 (p.1 : Nat), .int .i64 (p.2 : Nat)] 24 (0, 0)) := by rw [← hw1]; exact heap_alloc_new w _
  obtain ⟨b, off, ra, rc, rfl, hpn, hbl, e0, hrd⟩ := hp.line h hb1
  obtain ⟨a0, a1, z0, z1⟩ := row2 g1
  have hok := hp.2
  obtain ⟨i, j⟩ := p
  simp only at a0 a1 hpn hok e0 hrd hw1 ⊢
  show Calls Try.prog 26 #[.slice (some ⟨b, off, none⟩) n c, .agg #[.int .i64 (i : Nat), .int .i64 (j : Nat)], .bool big] w _
  obtain ⟨x, hx⟩ : ∃ x, lnL L i = x := ⟨_, rfl⟩
  rw [hx] at e0 hrd hok ⊢
  obtain ⟨m, hm⟩ : ∃ m, x.length = m := ⟨_, rfl⟩
  rw [hm] at e0 hrd hok
  have hms := hrd.small
  have HW1 := Lib.hid hw1
  have HB1 := Lib.hid hb1
  clear h hp hx g1 hw1 hb1 hbl
  by_cases h0 : m = 0
  · subst h0
    have hr : begins big x j = true := by rw [begins, if_pos (List.eq_nil_of_length_eq_zero hm)]
    rw [hr]
    clear hr hm hrd hok
    go_enter Try.func26, Try.ntmps26
    go_upto_region 1 with fail
    rw [HW1.out]
    go_wp2
    go_ret
    exact ⟨rfl, HB1.out⟩
  · have e1 : ((m : Int) == 0) = false := by simp; omega
    have hxn : ¬ x = [] := by rintro rfl; simp at hm; omega
    obtain ⟨rb, ro, rfl, hrb, hc⟩ := hrd.all_ (by omega)
    have hjm : j < m := by omega
    have c0 := hc j hjm
    have c1 : ∀ (hj : ¬ j = 0), w1.cell? ⟨rb, ro + (j - 1), none⟩ = some (.int .i32 (x.getD (j - 1) 0)) := fun hj => hc (j - 1) (by omega)
    have hr : begins big x j = ((cls big (x.getD j 0) != 0) && (decide (j = 0) || (cls big (x.getD (j - 1) 0) != cls big (x.getD j 0)))) := by rw [begins, if_neg hxn]
    rw [hr]
    obtain ⟨r0, hr0⟩ : ∃ r, x.getD j 0 = r := ⟨_, rfl⟩
    obtain ⟨r1, hr1⟩ : ∃ r, x.getD (j - 1) 0 = r := ⟨_, rfl⟩
    rw [hr0] at c0 ⊢
    rw [hr1] at c1 ⊢
    obtain ⟨k0, hk0⟩ : ∃ k, cls big r0 = k := ⟨_, rfl⟩
    obtain ⟨k1, hk1⟩ : ∃ k, cls big r1 = k := ⟨_, rfl⟩
    rw [hk0, hk1]
    have HK0 := Lib.hid hk0
    have HK1 := Lib.hid hk1
    clear hr hr0 hr1 hc hrd hok hm hxn hk0 hk1 h0
    by_cases hz : k0 = 0
    · have n0 : (k0 != 0) = false := by simp [hz]
      rw [n0, Bool.false_and]
      clear c1 hz
      go_enter Try.func26, Try.ntmps26
      go_upto_region 1 with fail
      rw [HW1.out]
      go_wp2_with (go_at_call 14; refine (rclass_any _ _ _).mono ?_; rintro e w' ⟨rfl, hw⟩; subst hw; rw [HK0.out])
      go_ret
      exact ⟨rfl, HB1.out⟩
    have n0 : (k0 != 0) = true := by simp [hz]
    rw [n0, Bool.true_and]
    by_cases hj0 : j = 0
    · have d0 : decide (j = 0) = true := by simp [hj0]
      have d1 : ((j : Int) == 0) = true := by simp [hj0]
      rw [d0, Bool.true_or]
      clear c1 hz hj0 d0
      go_enter Try.func26, Try.ntmps26
      go_upto_region 1 with fail
      rw [HW1.out]
      go_wp2_with (go_at_call 14; refine (rclass_any _ _ _).mono ?_; rintro e w' ⟨rfl, hw⟩; subst hw; rw [HK0.out])
      go_ret
      exact ⟨rfl, HB1.out⟩
    · have c1 := c1 hj0
      have d0 : decide (j = 0) = false := by simp [hj0]
      have d1 : ((j : Int) == 0) = false := by simp; omega
      rw [d0, Bool.false_or]
      obtain ⟨j1, hj1⟩ : ∃ j1, j - 1 = j1 := ⟨_, rfl⟩
      rw [hj1] at c1
      have s1 : (j : Int) - 1 = (j1 : Int) := by omega
      have hj1m : j1 < m := by omega
      clear hz d0 hj1
      have tok : True := trivial
      go_enter Try.func26, Try.ntmps26
      go_upto_region 1 with fail
      rw [HW1.out]
      go_wp2_with (first
        | (go_at_call 14; have _t := tok; refine (rclass_any _ _ _).mono ?_; clear tok _t; rintro e w' ⟨rfl, hw⟩; subst hw; rw [HK0.out])
        | (go_at_call 14; refine (rclass_any _ _ _).mono ?_; rintro e w' ⟨rfl, hw⟩; subst hw; rw [HK1.out]))
      go_ret
      exact ⟨rfl, HB1.out⟩
set_option maxHeartbeats 1000000 in
theorem rends_any (F : Nat → Prop) (a : Option Addr) (n c : Nat) (L : List (List Int)) (p : Pl) (big : Bool) (w : World) (h : RdL F w a n c L) (hp : okP L p) :
    Calls Try.prog 49 #[.slice a n c, plV p, .bool big] w fun e w' => e = .returned (.bool (ends big (lnL L p.1) p.2)) ∧ Below w.heap.size w w' := by
  have hsm := h.small
  obtain ⟨w1, hw1⟩ : ∃ w1, w.alloc (.cells #[.int .i64 (p.1 : Nat), .int .i64 (p.2 : Nat)] 24) = w1 := ⟨_, rfl⟩
  have hb1 : Below w.heap.size w w1 := by rw [← hw1]; exact bal _ _
  have g1 : w1.heap[w.heap.size]? = some (.cells #[.int .i64 (p.1 : Nat), .int .i64 (p.2 : Nat)] 24 (0, 0)) := by rw [← hw1]; exact heap_alloc_new w _
  obtain ⟨b, off, ra, rc, rfl, hpn, hbl, e0, hrd⟩ := hp.line h hb1
  obtain ⟨a0, a1, z0, z1⟩ := row2 g1
  have hok := hp.2
  obtain ⟨i, j⟩ := p
  simp only at a0 a1 hpn hok e0 hrd hw1 ⊢
  show Calls Try.prog 49 #[.slice (some ⟨b, off, none⟩) n c, .agg #[.int .i64 (i : Nat), .int .i64 (j : Nat)], .bool big] w _
  obtain ⟨x, hx⟩ : ∃ x, lnL L i = x := ⟨_, rfl⟩
  rw [hx] at e0 hrd hok ⊢
  obtain ⟨m, hm⟩ : ∃ m, x.length = m := ⟨_, rfl⟩
  rw [hm] at e0 hrd hok
  have hms := hrd.small
  have HW1 := Lib.hid hw1
  have HB1 := Lib.hid hb1
  clear h hp hx g1 hw1 hb1 hbl
  by_cases h0 : m = 0
  · subst h0
    have hr : ends big x j = false := by rw [ends, if_pos (List.eq_nil_of_length_eq_zero hm)]
    rw [hr]
    clear hr hm hrd hok
    go_enter Try.func49, Try.ntmps49
    go_upto_region 1 with fail
    rw [HW1.out]
    go_wp2
    go_ret
    exact ⟨rfl, HB1.out⟩
  · have e1 : ((m : Int) == 0) = false := by simp; omega
    have hxn : ¬ x = [] := by rintro rfl; simp at hm; omega
    obtain ⟨rb, ro, rfl, hrb, hc⟩ := hrd.all_ (by omega)
    have hjm : j < m := by omega
    have c0 := hc j hjm
    have c1 : ∀ (hj : ¬ j + 1 = m), w1.cell? ⟨rb, ro + (j + 1), none⟩ = some (.int .i32 (x.getD (j + 1) 0)) := fun hj => hc (j + 1) (by omega)
    have hr : ends big x j = ((cls big (x.getD j 0) != 0) && (decide (j + 1 = x.length) || (cls big (x.getD (j + 1) 0) != cls big (x.getD j 0)))) := by rw [ends, if_neg hxn]
    rw [hr, hm]
    obtain ⟨r0, hr0⟩ : ∃ r, x.getD j 0 = r := ⟨_, rfl⟩
    obtain ⟨r1, hr1⟩ : ∃ r, x.getD (j + 1) 0 = r := ⟨_, rfl⟩
    rw [hr0] at c0 ⊢
    rw [hr1] at c1 ⊢
    obtain ⟨k0, hk0⟩ : ∃ k, cls big r0 = k := ⟨_, rfl⟩
    obtain ⟨k1, hk1⟩ : ∃ k, cls big r1 = k := ⟨_, rfl⟩
    rw [hk0, hk1]
    have HK0 := Lib.hid hk0
    have HK1 := Lib.hid hk1
    clear hr hr0 hr1 hc hrd hok hm hxn hk0 hk1 h0
    by_cases hz : k0 = 0
    · have n0 : (k0 != 0) = false := by simp [hz]
      rw [n0, Bool.false_and]
      clear c1 hz
      go_enter Try.func49, Try.ntmps49
      go_upto_region 1 with fail
      rw [HW1.out]
      go_wp2_with (go_at_call 14; refine (rclass_any _ _ _).mono ?_; rintro e w' ⟨rfl, hw⟩; subst hw; rw [HK0.out])
      go_ret
      exact ⟨rfl, HB1.out⟩
    have n0 : (k0 != 0) = true := by simp [hz]
    rw [n0, Bool.true_and]
    by_cases hj0 : j + 1 = m
    · have d0 : decide (j + 1 = m) = true := by simp [hj0]
      have d1 : ((j : Int) == (m : Int) - 1) = true := by simp; omega
      rw [d0, Bool.true_or]
      clear c1 hz hj0 d0
      go_enter Try.func49, Try.ntmps49
      go_upto_region 1 with fail
      rw [HW1.out]
      go_wp2_with (go_at_call 14; refine (rclass_any _ _ _).mono ?_; rintro e w' ⟨rfl, hw⟩; subst hw; rw [HK0.out])
      go_ret
      exact ⟨rfl, HB1.out⟩
    · have c1 := c1 hj0
      have d0 : decide (j + 1 = m) = false := by simp [hj0]
      have d1 : ((j : Int) == (m : Int) - 1) = false := by simp; omega
      rw [d0, Bool.false_or]
      obtain ⟨j1, hj1⟩ : ∃ j1, j + 1 = j1 := ⟨_, rfl⟩
      rw [hj1] at c1
      have s1 : (j : Int) + 1 = (j1 : Int) := by omega
      have hj1m : j1 < m := by omega
      clear hz d0 hj1
      have tok : True := trivial
      go_enter Try.func49, Try.ntmps49
      go_upto_region 1 with fail
      rw [HW1.out]
      go_wp2_with (first
        | (go_at_call 14; have _t := tok; refine (rclass_any _ _ _).mono ?_; clear tok _t; rintro e w' ⟨rfl, hw⟩; subst hw; rw [HK0.out])
        | (go_at_call 14; refine (rclass_any _ _ _).mono ?_; rintro e w' ⟨rfl, hw⟩; subst hw; rw [HK1.out]))
      go_ret
      exact ⟨rfl, HB1.out⟩
end Go.Proofs.Ytnegijbdgefaoaa.U
