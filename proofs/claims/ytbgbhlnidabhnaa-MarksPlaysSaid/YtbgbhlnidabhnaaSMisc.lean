/-
  reverseRangeOrdered, choosePivotOrdered, partialInsertionSortOrdered (of less than 50).
-/
import Derived.Test.YtbgbhlnidabhnaaSBase
namespace Go.Proofs.Ytbgbhlnidabhnaa.U
open Go.RowKit
set_option linter.unusedVariables false
set_option linter.unusedSimpArgs false
set_option maxRecDepth 100000

theorem rev_step {i j : Nat} {e : Array Int} (h : i < j) : Sort.reverseLoop i j e = Sort.reverseLoop (i + 1) (j - 1) (Sort.swp e i j) := by rw [Sort.reverseLoop, if_pos h]
theorem rev_stop {i j : Nat} {e : Array Int} (h : ¬ i < j) : Sort.reverseLoop i j e = e := by rw [Sort.reverseLoop, if_neg h]
set_option maxHeartbeats 4000000 in
theorem reverse_any (g cap n a b : Nat) (d : Array Int) (w : World) (h : RowS w g cap d) (hn : d.size = n) (hn2 : n ≤ 100) (hab : a < b) (hb : b ≤ n) :
    Calls Try.prog 47 #[.slice (some ⟨g, 0, none⟩) n cap, .int .i64 a, .int .i64 b] w fun e w' => e = .returned (.tuple #[]) ∧ RowS w' g cap (Sort.reverseRange d a b) ∧ Fr (fun k => k = g) w w' := by
  have H := Lib.hid h
  have HN := Lib.hid hn
  clear h hn
  obtain ⟨b1, hb1⟩ : ∃ b1, b - 1 = b1 := ⟨_, rfl⟩
  have hb1' : (b : Int) - 1 = (b1 : Int) := by omega
  have HB1 := Lib.hid hb1
  clear hb1
  go_enter Try.func47, Try.ntmps47
  go_wp2
  go_loopw [6, 7] (fun iv jv wr => ∃ (i j : Nat) (e : Array Int), iv = .int .i64 i ∧ jv = .int .i64 j ∧ a ≤ i ∧ j < b ∧ i ≤ j + 2 ∧ Hid (e.size = n ∧ RowS wr g cap e ∧ Sort.reverseLoop i j e = Sort.reverseLoop a b1 d ∧ Fr (fun k => k = g) w wr)) (fun i j _ => (intOf j + 2 - intOf i).toNat)
  case atStart => exact ⟨a, b1, d, rfl, rfl, by omega, by have := HB1.out; omega, by have := HB1.out; omega, HN.out, H.out, rfl, Fr.refl _ _⟩
  case round =>
    obtain ⟨i, j, e, rfl, rfl, hai, hjb, hij2, hin⟩ := hrel
    by_cases hij : i < j
    · have x0 := hin.out.2.1.at_ (i := i) (by rw [hin.out.1]; omega)
      have y0 := hin.out.2.1.at_ (i := j) (by rw [hin.out.1]; omega)
      obtain ⟨x, hx⟩ : ∃ x, e[i]! = x := ⟨_, rfl⟩
      obtain ⟨y, hy⟩ : ∃ y, e[j]! = y := ⟨_, rfl⟩
      rw [hx] at x0
      rw [hy] at y0
      have z0 := hin.out.2.1.fz i
      have z1 := hin.out.2.1.fz j
      have ne1 : ¬ i = j := by omega
      have ne2 : ¬ j = i := by omega
      have hin1 : (i : Int) < (n : Int) := by omega
      have hjn1 : (j : Int) < (n : Int) := by omega
      obtain ⟨j1, hj1⟩ : ∃ j1, j - 1 = j1 := ⟨_, rfl⟩
      have hj1' : (j : Int) - 1 = (j1 : Int) := by omega
      have HX := Lib.hid hx
      have HY := Lib.hid hy
      have HJ := Lib.hid hj1
      clear hx hy hj1
      go_wp2
      go_region
      all_goals go_wp2
      all_goals go_roundw
      case rel =>
        obtain ⟨i1, i2, i3, i4⟩ := hin.out
        have hr := i2.drew.swp (i := i) (j := j) (by omega) (by omega)
        rw [HX.out, HY.out] at hr
        refine ⟨i + 1, j1, _, by go_num, rfl, by omega, by have := HJ.out; omega, by have := HJ.out; omega, by rw [Sort.size_swp]; exact i1, hr, ?_, i4.drew.trans (fr_set2 _ g i j _ _) (fun _ _ h => h)⟩
        rw [← i3, rev_step hij, HJ.out]
      case measure => simp [intOf]; have := HJ.out; omega
    · go_wp2
      first | go_end0 | refine bodyPost_ret (results_none rfl _ _ _) rfl ?_
      obtain ⟨i1, i2, i3, i4⟩ := hin.out
      rw [rev_stop hij] at i3
      have e9 : Sort.reverseRange d a b = e := by unfold Sort.reverseRange; rw [HB1.out, ← i3]
      rw [e9]
      exact ⟨rfl, i2, i4⟩

/-- order2: one of the two orders -/
theorem order2_any (g cap n i j sb : Nat) (d : Array Int) (s : Int) (w : World) (h : RowS w g cap d) (hn : d.size = n) (hn2 : n ≤ 100) (hi : i < n) (hj : j < n) (hs : w.heap[sb]? = some (.cells #[.int .i64 s] 3 (0, 0))) (hs2 : 0 ≤ s ∧ s ≤ 100) :
    Calls Try.prog 60 #[.slice (some ⟨g, 0, none⟩) n cap, .int .i64 i, .int .i64 j, .pointer (some ⟨sb, 0, none⟩)] w fun e w' => (e = .returned (.tuple #[.int .i64 (i : Nat), .int .i64 (j : Nat)]) ∨ e = .returned (.tuple #[.int .i64 (j : Nat), .int .i64 (i : Nat)])) ∧ ∃ s', 0 ≤ s' ∧ s' ≤ s + 1 ∧ w'.heap[sb]? = some (.cells #[.int .i64 s'] 3 (0, 0)) ∧ Fr (fun k => k = sb) w w' := by
  have x0 := h.at_ (i := i) (by omega)
  have y0 := h.at_ (i := j) (by omega)
  obtain ⟨x, hx⟩ : ∃ x, d[i]! = x := ⟨_, rfl⟩
  obtain ⟨y, hy⟩ : ∃ y, d[j]! = y := ⟨_, rfl⟩
  rw [hx] at x0
  rw [hy] at y0
  have hi1 : (i : Int) < (n : Int) := by omega
  have hj1 : (j : Int) < (n : Int) := by omega
  have c0 : w.cell? ⟨sb, 0, none⟩ = some (.int .i64 s) := by rw [cell_row hs]; rfl
  have z0 : w.frozen? ⟨sb, 0, none⟩ = false := frozen_row hs 0
  obtain ⟨s1, s2⟩ := hs2
  have HS := Lib.hid hs
  clear hs hx hy h hn
  by_cases hlt : y < x
  · have hlt2 : decide (y < x) = true := by simpa using hlt
    go_enter Try.func60, Try.ntmps60
    go_wp2
    go_quiet (first | (go_at_call 49; refine Calls.quiet_of_same (less_any _ _ _)))
    go_wp2
    go_ret2
    refine ⟨.inr rfl, s + 1, by omega, by omega, ?_, (fr_drewN (Fr.refl (fun k => k = sb) w) nq).setCell ⟨sb, 0, none⟩ _ (fun _ => rfl)⟩
    have := heap_set (w := w.drewN nq) (HS.out) 0 (.int .i64 (s + 1))
    rw [this]
    rfl
  · have hlt2 : decide (y < x) = false := by simpa using hlt
    go_enter Try.func60, Try.ntmps60
    go_wp2
    go_quiet (first | (go_at_call 49; refine Calls.quiet_of_same (less_any _ _ _)))
    go_wp2
    go_ret2
    exact ⟨.inl rfl, s, s1, by omega, HS.out, fr_drewN (Fr.refl (fun k => k = sb) w) nq⟩

set_option maxHeartbeats 1000000 in
theorem median_any (g cap n i j k sb : Nat) (d : Array Int) (w : World) (h : RowS w g cap d) (hn : d.size = n) (hn2 : n ≤ 100) (hi : i < n) (hj : j < n) (hk : k < n) (hgs : sb ≠ g) (s : Int) (hs : w.heap[sb]? = some (.cells #[.int .i64 s] 3 (0, 0))) (hs2 : 0 ≤ s ∧ s ≤ 90) :
    Calls Try.prog 58 #[.slice (some ⟨g, 0, none⟩) n cap, .int .i64 i, .int .i64 j, .int .i64 k, .pointer (some ⟨sb, 0, none⟩)] w fun e w' => (∃ m : Nat, e = .returned (.int .i64 (m : Nat)) ∧ (m = i ∨ m = j ∨ m = k)) ∧ ∃ s', 0 ≤ s' ∧ s' ≤ s + 3 ∧ w'.heap[sb]? = some (.cells #[.int .i64 s'] 3 (0, 0)) ∧ Fr (fun k => k = sb) w w' := by
  have tok1 : True := trivial
  have tok2 : True := trivial
  have tok3 : True := trivial
  -- one exchange of two, whatever the order
  have one : ∀ (x y : Nat) (W : World) (t : Int), x < n → y < n → RowS W g cap d → W.heap[sb]? = some (.cells #[.int .i64 t] 3 (0, 0)) → 0 ≤ t ∧ t ≤ 100 →
      Calls Try.prog 60 #[.slice (some ⟨g, 0, none⟩) n cap, .int .i64 x, .int .i64 y, .pointer (some ⟨sb, 0, none⟩)] W fun e w' => ∃ (x' y' : Nat), e = .returned (.tuple #[.int .i64 (x' : Nat), .int .i64 (y' : Nat)]) ∧ Hid ((x' = x ∧ y' = y) ∨ (x' = y ∧ y' = x)) ∧ ∃ t', Hid (RowS w' g cap d ∧ w'.heap[sb]? = some (.cells #[.int .i64 t'] 3 (0, 0)) ∧ 0 ≤ t' ∧ t' ≤ t + 1 ∧ Fr (fun k => k = sb) W w') := by
    intro x y W t hx hy hR ht ht2
    refine (order2_any g cap n x y sb d t W hR hn hn2 hx hy ht ht2).mono ?_
    rintro e w' ⟨he, t', t1, t2, t3, t4⟩
    have hR' : RowS w' g cap d := hR.block (t4.block g hR.lt (fun e => hgs e.symm))
    rcases he with rfl | rfl
    · exact ⟨x, y, rfl, .inl ⟨rfl, rfl⟩, t', hR', t3, t1, t2, t4⟩
    · exact ⟨y, x, rfl, .inr ⟨rfl, rfl⟩, t', hR', t3, t1, t2, t4⟩
  have H := Lib.hid h
  have HS := Lib.hid hs
  have HN := Lib.hid hn
  clear h hs hn
  go_enter Try.func58, Try.ntmps58
  go_wp2_with (go_at_call 60; have _t := tok1; refine (one i j _ s hi hj H.out HS.out (by omega)).mono ?_; rintro e w1 ⟨a1, b1, rfl, HA1, t1, HT1⟩; clear tok1 _t)
  have b1n : b1 < n := by have := HA1.out; omega
  have a1n : a1 < n := by have := HA1.out; omega
  go_wp2_with (go_at_call 60; have _t := tok2; refine (one b1 k _ t1 b1n hk HT1.out.1 HT1.out.2.1 (by have := HT1.out; omega)).mono ?_; rintro e w2 ⟨a2, b2, rfl, HA2, t2, HT2⟩; clear tok2 _t)
  have a2n : a2 < n := by have := HA2.out; omega
  go_wp2_with (go_at_call 60; have _t := tok3; refine (one a1 a2 _ t2 a1n a2n HT2.out.1 HT2.out.2.1 (by have := HT1.out; have := HT2.out; omega)).mono ?_; rintro e w3 ⟨a3, b3, rfl, HA3, t3, HT3⟩; clear tok3 _t)
  go_ret
  obtain ⟨q1, q2, q3, q4, q5⟩ := HT1.out
  obtain ⟨r1, r2, r3, r4, r5⟩ := HT2.out
  obtain ⟨u1, u2, u3, u4, u5⟩ := HT3.out
  refine ⟨⟨b3, rfl, ?_⟩, t3, u3, by omega, u2, (q5.trans r5 (fun _ _ h => h)).trans u5 (fun _ _ h => h)⟩
  have := HA1.out
  have := HA2.out
  have := HA3.out
  omega

set_option maxHeartbeats 1000000 in
/-- choosePivotOrdered, of 13 to 49: some place of the range -/
theorem pivot_any (g cap n a b : Nat) (d : Array Int) (w : World) (h : RowS w g cap d) (hn : d.size = n) (hn2 : n < 50) (hab : a + 12 < b) (hb : b ≤ n) :
    Calls Try.prog 46 #[.slice (some ⟨g, 0, none⟩) n cap, .int .i64 a, .int .i64 b] w fun e w' => (∃ (p : Nat) (t : Int), e = .returned (.tuple #[.int .i64 (p : Nat), .int .i64 t]) ∧ a ≤ p ∧ p < b ∧ 0 ≤ t ∧ t ≤ 2) ∧ Below w.heap.size w w' := by
  obtain ⟨l, hl⟩ : ∃ l, b - a = l := ⟨_, rfl⟩
  have hl1 : (b : Int) - (a : Int) = (l : Int) := by omega
  obtain ⟨q, hq⟩ : ∃ q, l / 4 = q := ⟨_, rfl⟩
  have hq1 : (l : Int) / 4 = (q : Int) := by omega
  obtain ⟨i, hi⟩ : ∃ i, a + q * 1 = i := ⟨_, rfl⟩
  obtain ⟨j, hj⟩ : ∃ j, a + q * 2 = j := ⟨_, rfl⟩
  obtain ⟨k, hk⟩ : ∃ k, a + q * 3 = k := ⟨_, rfl⟩
  have hi1 : (a : Int) + (q : Int) * 1 = (i : Int) := by omega
  have hi2 : (a : Int) + (q : Int) = (i : Int) := by omega
  have hj1 : (a : Int) + (q : Int) * 2 = (j : Int) := by omega
  have hk1 : (a : Int) + (q : Int) * 3 = (k : Int) := by omega
  have l1 : (8 : Int) ≤ (l : Int) := by omega
  have l2 : (l : Int) < 50 := by omega
  have hin : i < n := by omega
  have hjn : j < n := by omega
  have hkn : k < n := by omega
  have ri : a ≤ i ∧ i < b := by omega
  have rj : a ≤ j ∧ j < b := by omega
  have rk : a ≤ k ∧ k < b := by omega
  have hgl := h.lt
  have hg0 := heap_alloc_new w (.cells #[.int .i64 0] 3)
  have hm := median_any g cap n i j k w.heap.size d (w.alloc (.cells #[.int .i64 0] 3)) (h.below ((Below.refl _ w).alloc (Nat.le_refl _) _)) hn (by omega) hin hjn hkn (by omega) 0 hg0 (by omega)
  have HH := Lib.hid (And.intro hi (And.intro hj (And.intro hk (And.intro hq hl))))
  clear hi hj hk hq hl h hg0
  go_enter Try.func46, Try.ntmps46
  go_wp2_with (go_at_call 58; refine hm.mono ?_; rintro e w1 ⟨⟨m, rfl, hm3⟩, s', s1, s2, s3, s4⟩; have c0 : w1.cell? ⟨w.heap.size, 0, none⟩ = some (.int .i64 s') := (by rw [cell_row s3]; rfl); clear hm)
  all_goals go_ret2
  all_goals
    refine ⟨⟨m, _, rfl, by omega, by omega, by omega, by omega⟩, ?_⟩
    exact ((Below.refl _ w).alloc (Nat.le_refl _) _).trans (s4.below (by simp) (fun k hk => by omega))
end Go.Proofs.Ytbgbhlnidabhnaa.U
