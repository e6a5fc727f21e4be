/-
  Picked by wip/tools/pick.py: what other layers use of lines, rows and their readings.
-/
import Derived.Test.YthlhgkeodaifcaaDoorChecked
import Derived.Test.YthlhgkeodaifcaaDoorUBase
import Derived.Test.YthlhgkeodaifcaaDoorPFr
import Derived.Test.YthlhgkeodaifcaaDoorNPure
import Derived.Test.YthlhgkeodaifcaaDoorBBase
namespace Go.Proofs.YthlhgkeodaifcaaDoor.U
open Go.RowKit
set_option linter.unusedVariables false
set_option linter.unusedSimpArgs false
set_option maxRecDepth 100000

theorem wword_any (c : Int) (w : World) :
    Calls Tryd.prog 43 #[.int .i32 c] w fun e w' => e = .returned (.bool (wordR c)) ∧ w = w' := by
  have hall : c ≤ 47 ∨ (48 ≤ c ∧ c ≤ 57) ∨ (58 ≤ c ∧ c ≤ 64) ∨ (65 ≤ c ∧ c ≤ 90) ∨ (91 ≤ c ∧ c ≤ 94) ∨ c = 95 ∨ c = 96 ∨ (97 ≤ c ∧ c ≤ 122) ∨ (123 ≤ c ∧ c ≤ 127) ∨ 128 ≤ c := by omega
  rcases hall with ha | ha | ha | ha | ha | ha | ha | ha | ha | ha
  · have ha1 := ha
    have t0 : ¬ 48 ≤ c := by omega
    have d0 : decide (48 ≤ c) = false := by simp; omega
    have t1 : c ≤ 57 := by omega
    have d1 : decide (c ≤ 57) = true := by simp; omega
    have t2 : ¬ 65 ≤ c := by omega
    have d2 : decide (65 ≤ c) = false := by simp; omega
    have t3 : c ≤ 90 := by omega
    have d3 : decide (c ≤ 90) = true := by simp; omega
    have t4 : ¬ 97 ≤ c := by omega
    have d4 : decide (97 ≤ c) = false := by simp; omega
    have t5 : c ≤ 122 := by omega
    have d5 : decide (c ≤ 122) = true := by simp; omega
    have t6 : ¬ 128 ≤ c := by omega
    have d6 : decide (128 ≤ c) = false := by simp; omega
    have e1 : (c == 95) = false := by simp; omega
    have e2 : decide (c = 95) = false := by simp; omega
    have hw : wordR c = false := by simp [wordR]; omega
    rw [hw]
    clear hw e2
    go_enter Tryd.func43, Tryd.ntmps43
    go_wp2
    go_ret
    exact ⟨rfl, rfl⟩
  · obtain ⟨ha1, ha2⟩ := ha
    have t0 : 48 ≤ c := by omega
    have d0 : decide (48 ≤ c) = true := by simp; omega
    have t1 : c ≤ 57 := by omega
    have d1 : decide (c ≤ 57) = true := by simp; omega
    have t2 : ¬ 65 ≤ c := by omega
    have d2 : decide (65 ≤ c) = false := by simp; omega
    have t3 : c ≤ 90 := by omega
    have d3 : decide (c ≤ 90) = true := by simp; omega
    have t4 : ¬ 97 ≤ c := by omega
    have d4 : decide (97 ≤ c) = false := by simp; omega
    have t5 : c ≤ 122 := by omega
    have d5 : decide (c ≤ 122) = true := by simp; omega
    have t6 : ¬ 128 ≤ c := by omega
    have d6 : decide (128 ≤ c) = false := by simp; omega
    have e1 : (c == 95) = false := by simp; omega
    have e2 : decide (c = 95) = false := by simp; omega
    have hw : wordR c = true := by simp [wordR]; omega
    rw [hw]
    clear hw e2
    go_enter Tryd.func43, Tryd.ntmps43
    go_wp2
    go_ret
    exact ⟨rfl, rfl⟩
  · obtain ⟨ha1, ha2⟩ := ha
    have t0 : 48 ≤ c := by omega
    have d0 : decide (48 ≤ c) = true := by simp; omega
    have t1 : ¬ c ≤ 57 := by omega
    have d1 : decide (c ≤ 57) = false := by simp; omega
    have t2 : ¬ 65 ≤ c := by omega
    have d2 : decide (65 ≤ c) = false := by simp; omega
    have t3 : c ≤ 90 := by omega
    have d3 : decide (c ≤ 90) = true := by simp; omega
    have t4 : ¬ 97 ≤ c := by omega
    have d4 : decide (97 ≤ c) = false := by simp; omega
    have t5 : c ≤ 122 := by omega
    have d5 : decide (c ≤ 122) = true := by simp; omega
    have t6 : ¬ 128 ≤ c := by omega
    have d6 : decide (128 ≤ c) = false := by simp; omega
    have e1 : (c == 95) = false := by simp; omega
    have e2 : decide (c = 95) = false := by simp; omega
    have hw : wordR c = false := by simp [wordR]; omega
    rw [hw]
    clear hw e2
    go_enter Tryd.func43, Tryd.ntmps43
    go_wp2
    go_ret
    exact ⟨rfl, rfl⟩
  · obtain ⟨ha1, ha2⟩ := ha
    have t0 : 48 ≤ c := by omega
    have d0 : decide (48 ≤ c) = true := by simp; omega
    have t1 : ¬ c ≤ 57 := by omega
    have d1 : decide (c ≤ 57) = false := by simp; omega
    have t2 : 65 ≤ c := by omega
    have d2 : decide (65 ≤ c) = true := by simp; omega
    have t3 : c ≤ 90 := by omega
    have d3 : decide (c ≤ 90) = true := by simp; omega
    have t4 : ¬ 97 ≤ c := by omega
    have d4 : decide (97 ≤ c) = false := by simp; omega
    have t5 : c ≤ 122 := by omega
    have d5 : decide (c ≤ 122) = true := by simp; omega
    have t6 : ¬ 128 ≤ c := by omega
    have d6 : decide (128 ≤ c) = false := by simp; omega
    have e1 : (c == 95) = false := by simp; omega
    have e2 : decide (c = 95) = false := by simp; omega
    have hw : wordR c = true := by simp [wordR]; omega
    rw [hw]
    clear hw e2
    go_enter Tryd.func43, Tryd.ntmps43
    go_wp2
    go_ret
    exact ⟨rfl, rfl⟩
  · obtain ⟨ha1, ha2⟩ := ha
    have t0 : 48 ≤ c := by omega
    have d0 : decide (48 ≤ c) = true := by simp; omega
    have t1 : ¬ c ≤ 57 := by omega
    have d1 : decide (c ≤ 57) = false := by simp; omega
    have t2 : 65 ≤ c := by omega
    have d2 : decide (65 ≤ c) = true := by simp; omega
    have t3 : ¬ c ≤ 90 := by omega
    have d3 : decide (c ≤ 90) = false := by simp; omega
    have t4 : ¬ 97 ≤ c := by omega
    have d4 : decide (97 ≤ c) = false := by simp; omega
    have t5 : c ≤ 122 := by omega
    have d5 : decide (c ≤ 122) = true := by simp; omega
    have t6 : ¬ 128 ≤ c := by omega
    have d6 : decide (128 ≤ c) = false := by simp; omega
    have e1 : (c == 95) = false := by simp; omega
    have e2 : decide (c = 95) = false := by simp; omega
    have hw : wordR c = false := by simp [wordR]; omega
    rw [hw]
    clear hw e2
    go_enter Tryd.func43, Tryd.ntmps43
    go_wp2
    go_ret
    exact ⟨rfl, rfl⟩
  · have ha1 := ha
    have t0 : 48 ≤ c := by omega
    have d0 : decide (48 ≤ c) = true := by simp; omega
    have t1 : ¬ c ≤ 57 := by omega
    have d1 : decide (c ≤ 57) = false := by simp; omega
    have t2 : 65 ≤ c := by omega
    have d2 : decide (65 ≤ c) = true := by simp; omega
    have t3 : ¬ c ≤ 90 := by omega
    have d3 : decide (c ≤ 90) = false := by simp; omega
    have t4 : ¬ 97 ≤ c := by omega
    have d4 : decide (97 ≤ c) = false := by simp; omega
    have t5 : c ≤ 122 := by omega
    have d5 : decide (c ≤ 122) = true := by simp; omega
    have t6 : ¬ 128 ≤ c := by omega
    have d6 : decide (128 ≤ c) = false := by simp; omega
    have e1 : (c == 95) = true := by simp; omega
    have e2 : decide (c = 95) = true := by simp; omega
    have hw : wordR c = true := by simp [wordR]; omega
    rw [hw]
    clear hw e2
    go_enter Tryd.func43, Tryd.ntmps43
    go_wp2
    go_ret
    exact ⟨rfl, rfl⟩
  · have ha1 := ha
    have t0 : 48 ≤ c := by omega
    have d0 : decide (48 ≤ c) = true := by simp; omega
    have t1 : ¬ c ≤ 57 := by omega
    have d1 : decide (c ≤ 57) = false := by simp; omega
    have t2 : 65 ≤ c := by omega
    have d2 : decide (65 ≤ c) = true := by simp; omega
    have t3 : ¬ c ≤ 90 := by omega
    have d3 : decide (c ≤ 90) = false := by simp; omega
    have t4 : ¬ 97 ≤ c := by omega
    have d4 : decide (97 ≤ c) = false := by simp; omega
    have t5 : c ≤ 122 := by omega
    have d5 : decide (c ≤ 122) = true := by simp; omega
    have t6 : ¬ 128 ≤ c := by omega
    have d6 : decide (128 ≤ c) = false := by simp; omega
    have e1 : (c == 95) = false := by simp; omega
    have e2 : decide (c = 95) = false := by simp; omega
    have hw : wordR c = false := by simp [wordR]; omega
    rw [hw]
    clear hw e2
    go_enter Tryd.func43, Tryd.ntmps43
    go_wp2
    go_ret
    exact ⟨rfl, rfl⟩
  · obtain ⟨ha1, ha2⟩ := ha
    have t0 : 48 ≤ c := by omega
    have d0 : decide (48 ≤ c) = true := by simp; omega
    have t1 : ¬ c ≤ 57 := by omega
    have d1 : decide (c ≤ 57) = false := by simp; omega
    have t2 : 65 ≤ c := by omega
    have d2 : decide (65 ≤ c) = true := by simp; omega
    have t3 : ¬ c ≤ 90 := by omega
    have d3 : decide (c ≤ 90) = false := by simp; omega
    have t4 : 97 ≤ c := by omega
    have d4 : decide (97 ≤ c) = true := by simp; omega
    have t5 : c ≤ 122 := by omega
    have d5 : decide (c ≤ 122) = true := by simp; omega
    have t6 : ¬ 128 ≤ c := by omega
    have d6 : decide (128 ≤ c) = false := by simp; omega
    have e1 : (c == 95) = false := by simp; omega
    have e2 : decide (c = 95) = false := by simp; omega
    have hw : wordR c = true := by simp [wordR]; omega
    rw [hw]
    clear hw e2
    go_enter Tryd.func43, Tryd.ntmps43
    go_wp2
    go_ret
    exact ⟨rfl, rfl⟩
  · obtain ⟨ha1, ha2⟩ := ha
    have t0 : 48 ≤ c := by omega
    have d0 : decide (48 ≤ c) = true := by simp; omega
    have t1 : ¬ c ≤ 57 := by omega
    have d1 : decide (c ≤ 57) = false := by simp; omega
    have t2 : 65 ≤ c := by omega
    have d2 : decide (65 ≤ c) = true := by simp; omega
    have t3 : ¬ c ≤ 90 := by omega
    have d3 : decide (c ≤ 90) = false := by simp; omega
    have t4 : 97 ≤ c := by omega
    have d4 : decide (97 ≤ c) = true := by simp; omega
    have t5 : ¬ c ≤ 122 := by omega
    have d5 : decide (c ≤ 122) = false := by simp; omega
    have t6 : ¬ 128 ≤ c := by omega
    have d6 : decide (128 ≤ c) = false := by simp; omega
    have e1 : (c == 95) = false := by simp; omega
    have e2 : decide (c = 95) = false := by simp; omega
    have hw : wordR c = false := by simp [wordR]; omega
    rw [hw]
    clear hw e2
    go_enter Tryd.func43, Tryd.ntmps43
    go_wp2
    go_ret
    exact ⟨rfl, rfl⟩
  · have ha1 := ha
    have t0 : 48 ≤ c := by omega
    have d0 : decide (48 ≤ c) = true := by simp; omega
    have t1 : ¬ c ≤ 57 := by omega
    have d1 : decide (c ≤ 57) = false := by simp; omega
    have t2 : 65 ≤ c := by omega
    have d2 : decide (65 ≤ c) = true := by simp; omega
    have t3 : ¬ c ≤ 90 := by omega
    have d3 : decide (c ≤ 90) = false := by simp; omega
    have t4 : 97 ≤ c := by omega
    have d4 : decide (97 ≤ c) = true := by simp; omega
    have t5 : ¬ c ≤ 122 := by omega
    have d5 : decide (c ≤ 122) = false := by simp; omega
    have t6 : 128 ≤ c := by omega
    have d6 : decide (128 ≤ c) = true := by simp; omega
    have e1 : (c == 95) = false := by simp; omega
    have e2 : decide (c = 95) = false := by simp; omega
    have hw : wordR c = true := by simp [wordR]; omega
    rw [hw]
    clear hw e2
    go_enter Tryd.func43, Tryd.ntmps43
    go_wp2
    go_ret
    exact ⟨rfl, rfl⟩
theorem wclass_eq (c : Int) (big : Bool) (w : World) :
    Calls Tryd.prog 36 #[.int .i32 c, .bool big] w fun e w' => e = .returned (.int .i64 (cls big c)) ∧ w = w' := by
  by_cases h1 : c = 32
  · have e1 : (c == 32) = true := by simp [h1]
    have hc : cls big c = 0 := by simp [cls, h1]
    rw [hc]
    clear hc h1
    go_enter Tryd.func36, Tryd.ntmps36
    go_wp2
    go_ret
    exact ⟨rfl, rfl⟩
  have e1 : (c == 32) = false := by simp [h1]
  by_cases h2 : c = 9
  · have e2 : (c == 9) = true := by simp [h2]
    have hc : cls big c = 0 := by simp [cls, h2]
    rw [hc]
    clear hc h1 h2
    go_enter Tryd.func36, Tryd.ntmps36
    go_wp2
    go_ret
    exact ⟨rfl, rfl⟩
  have e2 : (c == 9) = false := by simp [h2]
  cases big with
  | true =>
    have hc : cls true c = 1 := by simp [cls, h1, h2]
    rw [hc]
    clear hc h1 h2
    go_enter Tryd.func36, Tryd.ntmps36
    go_wp2
    go_ret
    exact ⟨rfl, rfl⟩
  | false =>
    obtain ⟨b, hb⟩ : ∃ b, wordR c = b := ⟨_, rfl⟩
    have hc : cls false c = if b = true then 1 else 2 := by simp [cls, h1, h2, hb]
    rw [hc]
    have HW := Lib.hid (wword_any c)
    rw [hb] at HW
    clear hc h1 h2 hb
    go_enter Tryd.func36, Tryd.ntmps36
    cases b
    · go_wp2_with (go_at_call 43; refine (HW.out _).mono ?_; rintro e w' ⟨rfl, rfl⟩)
      go_ret
      exact ⟨rfl, rfl⟩
    · go_wp2_with (go_at_call 43; refine (HW.out _).mono ?_; rintro e w' ⟨rfl, rfl⟩)
      go_ret
      exact ⟨rfl, rfl⟩
theorem wclass_any (c : Int) (big : Bool) (w : World) :
    Calls Tryd.prog 36 #[.int .i32 c, .bool big] w fun e w' => e = .returned (.int .i64 (cls big c)) ∧ Below w.heap.size w w' :=
  (wclass_eq c big w).mono (by rintro e w' ⟨rfl, rfl⟩; exact ⟨rfl, Below.refl _ _⟩)
theorem clipped_eq (x : Int) (n : Nat) (w : World) (hn : n ≤ 9223372036854775807) (hx : i64b x) :
    Calls Tryd.prog 27 #[.int .i64 x, .int .i64 (n : Nat)] w fun e w' => e = .returned (.int .i64 (clipN n x : Nat)) ∧ w = w' := by
  obtain ⟨hx1, hx2⟩ := hx
  have hc : max (min x ((n : Int) - 1)) 0 = ((clipN n x : Nat) : Int) := by unfold clipN; omega
  obtain ⟨k, hk⟩ : ∃ k, clipN n x = k := ⟨_, rfl⟩
  rw [hk] at hc ⊢
  clear hk
  go_enter Tryd.func27, Tryd.ntmps27
  go_wp2
  go_ret
  exact ⟨ret_int (by first | exact hc | (simp; omega) | rfl), rfl⟩
set_option maxHeartbeats 1000000 in
theorem wclip_any (F : Nat → Prop) (a : Option Addr) (n c : Nat) (L : List (List Int)) (q : Po) (w : World) (h : RdL F w a n c L) (hq : i64p q) :
    Calls Tryd.prog 18 #[.slice a n c, q.v] w fun e w' => e = .returned (plV (clipP L q.l q.c)) ∧ Below w.heap.size w w' := by
  obtain ⟨u, v⟩ := q
  show Calls Tryd.prog 18 #[.slice a n c, .agg #[.int .i64 u, .int .i64 v]] w fun e w' => e = .returned (plV (clipP L u v)) ∧ Below w.heap.size w w'
  obtain ⟨hbu, hbv⟩ := hq
  simp only at hbu hbv
  have hl := h.len
  have hsm := h.small
  by_cases h0 : n = 0
  · subst h0
    have hL : L = [] := List.eq_nil_of_length_eq_zero hl
    have hr : clipP L u v = (0, 0) := by rw [hL]; rfl
    rw [hr]
    clear h hl hL hr
    go_enter Tryd.func18, Tryd.ntmps18
    go_wp2
    refine bodyPost_ret (v := plV (0, 0)) ?_ rfl ⟨rfl, ?_⟩
    · rw [results_cell1 rfl]
      go_simp
      rfl
    · (repeat' (refine setCell_below ?_ _ _ _ ?_)) <;> first | exact ((Below.refl _ w).alloc (Nat.le_refl _) _).alloc (by simp) _ | omega
  · have hne : ((n : Int) == 0) = false := by simp; omega
    have hne2 : ¬ n = 0 := h0
    have hL : L ≠ [] := by rintro rfl; simp at hl; omega
    obtain ⟨k, hk⟩ : ∃ k, clipN n u = k := ⟨_, rfl⟩
    have hkn : k < n := by rw [← hk]; exact clipN_lt u (by omega)
    obtain ⟨x, hx⟩ : ∃ x, L[k]? = some x := ⟨L[k]'(by omega), List.getElem?_eq_getElem _⟩
    obtain ⟨b, off, ra, rc, rfl, hbl, hF, e0, hrd, -, -⟩ := h.get (Below.refl _ w) hx
    have hxs := hrd.small
    obtain ⟨m, hm⟩ : ∃ m, x.length = m := ⟨_, rfl⟩
    rw [hm] at e0 hxs
    have hr : clipP L u v = (k, clipN m v) := by
      unfold clipP
      rw [if_neg hL, hl, hk, ← hm]
      simp [lnL, List.getD_eq_getElem?_getD, hx]
    rw [hr]
    have HC1 : Hid (∀ W, Calls Tryd.prog 27 #[.int .i64 u, .int .i64 (n : Nat)] W fun e w' => e = .returned (.int .i64 (k : Nat)) ∧ W = w') := by
      intro W; rw [← hk]; exact clipped_eq u n W (by omega) hbu
    obtain ⟨j, hj⟩ : ∃ j, clipN m v = j := ⟨_, rfl⟩
    have HC2 : Hid (∀ W, Calls Tryd.prog 27 #[.int .i64 v, .int .i64 (m : Nat)] W fun e w' => e = .returned (.int .i64 (j : Nat)) ∧ W = w') := by
      intro W; rw [← hj]; exact clipped_eq v m W (by omega) hbv
    rw [hj]
    clear h hl hL hr hrd hx hm h0 hbu hbv
    obtain ⟨w1, hw1⟩ : ∃ w1, (w.alloc (.cells #[.int .i64 u, .int .i64 v] 24)).alloc (.cells #[.int .i64 0, .int .i64 0] 24) = w1 := ⟨_, rfl⟩
    have hb1 : Below w.heap.size w w1 := by rw [← hw1]; exact ((Below.refl _ w).alloc (Nat.le_refl _) _).alloc (by simp) _
    have g1 : w1.heap[w.heap.size]? = some (.cells #[.int .i64 u, .int .i64 v] 24 (0, 0)) := by
      rw [← hw1, ((Below.refl _ (w.alloc _)).alloc (Nat.le_refl _) _).block _ (by simp)]
      exact heap_alloc_new w _
    have g2 : w1.heap[w.heap.size + 1]? = some (.cells #[.int .i64 0, .int .i64 0] 24 (0, 0)) := by
      rw [← hw1]
      have := heap_alloc_new (w.alloc (.cells #[.int .i64 u, .int .i64 v] 24)) (.cells #[.int .i64 0, .int .i64 0] 24)
      simpa using this
    have e1 := (hb1.cell (p := ⟨b, off + k, none⟩) hbl).trans e0
    obtain ⟨a0, a1, z0, z1⟩ := row2 g1
    obtain ⟨a2, a3, z2, z3⟩ := row2 g2
    have HW1 := Lib.hid hw1
    have G1 := Lib.hid g1
    have G2 := Lib.hid g2
    have HB1 := Lib.hid hb1
    have nb : ¬ b = w.heap.size := by omega
    have nb2 : ¬ b = w.heap.size + 1 := by omega
    clear g1 g2 hw1 hb1 e0 hk hj
    go_enter Tryd.func18, Tryd.ntmps18
    go_upto_region 1 with fail
    rw [HW1.out]
    go_upto_region 4 with (go_at_call 27; refine (HC1.out _).mono ?_; rintro e w' ⟨rfl, hw⟩; subst hw)
    obtain ⟨w2, hw2⟩ : ∃ w2, w1.setCell ⟨w.heap.size, 0, none⟩ (.int .i64 (k : Int)) = w2 := ⟨_, rfl⟩
    rw [hw2]
    have hb2 : Below w.heap.size w w2 := by rw [← hw2]; exact setCell_below HB1.out _ _ _ (Nat.le_refl _)
    have q0 : w2.heap[w.heap.size]? = some (.cells #[.int .i64 (k : Int), .int .i64 v] 24 (0, 0)) := by rw [← hw2]; exact heap_set G1.out 0 _
    have q1 : w2.heap[w.heap.size + 1]? = some (.cells #[.int .i64 0, .int .i64 0] 24 (0, 0)) := by rw [← hw2, Below.heap_setCell _ _ _ _ (by show ¬ _ = _; simp)]; exact G2.out
    have q2 : w2.cell? ⟨b, off + k, none⟩ = some (.slice ra m rc) := by rw [World.cell?_of_block (a := ⟨b, off + k, none⟩) (w := w1) (by rw [← hw2]; exact Below.heap_setCell _ _ _ _ (by show ¬ _ = _; exact nb))]; exact e1
    obtain ⟨b0, b1, y0, y1⟩ := row2 q0
    obtain ⟨b2, b3, y2, y3⟩ := row2 q1
    have HB2 := Lib.hid hb2
    clear q0 q1 hb2 hw2 a0 a1 a2 a3 z0 z1 z2 z3 e1 G1 G2 HW1 HB1 HC1
    go_region_with (go_at_call 27; refine (HC2.out _).mono ?_; rintro e w' ⟨rfl, hw⟩; subst hw)
    all_goals
      go_wp2
      refine bodyPost_ret (v := plV (k, j)) ?_ rfl ⟨rfl, ?_⟩
      · rw [results_cell1 rfl]
        go_simp
        rfl
      · have h2 := HB2.out
        (repeat' (first | exact h2 | omega | refine setCell_below ?_ _ _ _ ?_ | refine Below.drew ?_ | refine bdrewN ?_ _))
theorem mx_i64 : i64p ⟨9223372036854775807, 9223372036854775807⟩ := ⟨⟨by show (_ : Int) ≤ _; decide, by show (_ : Int) ≤ _; decide⟩, by show (_ : Int) ≤ _; decide, by show (_ : Int) ≤ _; decide⟩
theorem clip_last {L : List (List Int)} (hn : L.length ≤ 9223372036854775807) (hx : ∀ i, (lnL L i).length ≤ 9223372036854775807) : clipP L 9223372036854775807 9223372036854775807 = lastP L := by
  by_cases hL : L = []
  · subst hL; rfl
  · have hm := lastP_mem hL
    have hok := clipP_ok hL 9223372036854775807 9223372036854775807
    have hc : clipP L 9223372036854775807 9223372036854775807 = (L.length - 1, (lnL L (L.length - 1)).length - 1) := by
      have h1 : clipN L.length 9223372036854775807 = L.length - 1 := by unfold clipN; omega
      unfold clipP
      rw [if_neg hL, h1]
      have h2 := hx (L.length - 1)
      congr 1
      unfold clipN; omega
    have h1 := lastP_max hL (places_mem.2 hok)
    obtain ⟨k1, k2⟩ := places_mem.1 hm
    by_cases e : lastP L = clipP L 9223372036854775807 9223372036854775807
    · exact e.symm
    · exfalso
      have h2 := aheadP_total h1 e
      rw [hc, aheadP_iff] at h2
      simp only at h2
      rcases h2 with h2 | ⟨h2, h3⟩
      · omega
      · rw [← h2] at k2; omega
theorem lns_small {F : Nat → Prop} {a : Option Addr} {n c : Nat} {L : List (List Int)} {w : World} (h : RdL F w a n c L) (i : Nat) : (lnL L i).length ≤ 9223372036854775807 := by
  by_cases hi : i < L.length
  · obtain ⟨_, _, _, _, _, _, _, _, e⟩ := okP.line (p := (i, 0)) h ⟨hi, by simp⟩ (Below.refl _ w)
    exact e.small
  · unfold lnL
    rw [List.getD_eq_getElem?_getD, List.getElem?_eq_none (by omega)]
    simp
theorem wlast0_any (F : Nat → Prop) (a : Option Addr) (n c : Nat) (L : List (List Int)) (w : World) (h : RdL F w a n c L) :
    Calls Tryd.prog 50 #[.slice a n c] w fun e w' => e = .returned (plV (lastP L)) ∧ Below w.heap.size w w' := by
  have hl := h.len
  have hsm := h.small
  have hc := clip_last (L := L) (by omega) (lns_small h)
  have HC : Hid (∀ W, Below w.heap.size w W → Calls Tryd.prog 18 #[.slice a n c, .agg #[.int .i64 9223372036854775807, .int .i64 9223372036854775807]] W fun e w' => e = .returned (plV (lastP L)) ∧ Below W.heap.size W w') := by
    intro W hW
    rw [← hc]
    exact wclip_any F a n c L ⟨9223372036854775807, 9223372036854775807⟩ W (h.below hW) mx_i64
  obtain ⟨p, hp⟩ : ∃ p, lastP L = p := ⟨_, rfl⟩
  rw [hp] at HC ⊢
  obtain ⟨i, j⟩ := p
  unfold plV at HC ⊢
  clear hc hp h
  obtain ⟨w1, hw1⟩ : ∃ w1, w.alloc (.cells #[.int .i64 0, .int .i64 0] 24) = w1 := ⟨_, rfl⟩
  have hb1 : Below w.heap.size w w1 := by rw [← hw1]; exact bal _ _
  have g1 : w1.heap[w.heap.size]? = some (.cells #[.int .i64 0, .int .i64 0] 24 (0, 0)) := by rw [← hw1]; exact heap_alloc_new w _
  have hbl := (Array.getElem?_eq_some_iff.1 g1).1
  have HW1 := Lib.hid hw1
  have HB1 := Lib.hid hb1
  have G1 := Lib.hid g1
  clear hw1 hb1 g1
  go_enter Tryd.func50, Tryd.ntmps50
  go_upto_region 1 with fail
  rw [HW1.out]
  go_wp2_with (go_at_call 18; refine (HC.out _ HB1.out).mono ?_; rintro e w' ⟨rfl, hb2⟩; obtain ⟨a0, a1, z0, z1⟩ := row2 ((hb2.block _ hbl).trans G1.out))
  refine bodyPost_ret (v := plV (i, j)) ?_ rfl ⟨rfl, ?_⟩
  · rw [results_cell1 rfl]
    go_simp
    rfl
  · have h2 := btr HB1.out hb2
    (repeat' (first | exact h2 | omega | refine setCell_below ?_ _ _ _ ?_))
end Go.Proofs.YthlhgkeodaifcaaDoor.U
