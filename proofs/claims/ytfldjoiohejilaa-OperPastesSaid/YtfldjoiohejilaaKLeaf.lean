/-
  The program's leaves of layer 13: isBlank, blanks, firstRune, isKind, isAhead, turn, copied, runes, room, times.
-/
import Derived.Test.YtfldjoiohejilaaKPure
import Derived.Test.YtfldjoiohejilaaKBase
import Derived.Test.YtfldjoiohejilaaJHas
namespace Go.Proofs.Ytfldjoiohejilaa.U
open Go.RowKit
set_option linter.unusedVariables false
set_option linter.unusedSimpArgs false
set_option maxRecDepth 100000

theorem kblank_any (c : Int) (w : World) :
    Calls Try.prog 101 #[.int .i32 c] w fun e w' => e = .returned (.bool (blankR c)) ∧ w' = w := by
  have HC : Hid (∀ W, Calls Try.prog 104 #[.int .i32 c, .bool false] W fun e w' => e = .returned (.int .i64 (cls false c)) ∧ W = w') := fun W => wclass_eq c false W
  unfold blankR
  obtain ⟨z, hz⟩ : ∃ z, cls false c = z := ⟨_, rfl⟩
  rw [hz] at HC ⊢
  clear hz
  go_enter Try.func101, Try.ntmps101
  go_wp2_with (go_at_call 104; (refine (HC.out _).mono ?_); rintro e wq ⟨rfl, hwq⟩; subst hwq)
  go_ret
  exact ⟨rfl, rfl⟩
theorem bdrK {B : Nat} {a w : World} (h : Below B a w) (n : Nat) : Below B a (w.drewN n) := ⟨h.os, h.tape, h.output, h.size, h.block⟩
theorem ret_i64K {x y : Int} (h : x = y) : Ending.returned (.int .i64 x) = Ending.returned (.int .i64 y) := by rw [h]
set_option maxHeartbeats 1000000 in
theorem kblanks_any (a : Option Addr) (m c : Nat) (x : List Int) (w : World) (h : Rd .i32 w a m c x) :
    Calls Try.prog 94 #[.slice a m c] w fun e w' => e = .returned (.int .i64 (blkN x : Nat)) ∧ w' = w := by
  have hx := h.1
  have hsm := h.small
  have hble := blkN_le x
  have HL : Hid (∀ i, i < blkN x → ∃ z, x[i]? = some z ∧ blankR z = true) := fun i hi => blk_lt hi
  have HE : Hid (∀ z, x[blkN x]? = some z → blankR z = false) := fun z hz => blk_end hz
  obtain ⟨N, hN⟩ : ∃ N, blkN x = N := ⟨_, rfl⟩
  rw [hN] at HL HE hble ⊢
  have H := Lib.hid (And.intro h hx)
  have HN1 : Hid (N ≤ m) := by show _ ≤ _; omega
  clear h hx hN hble
  go_enter Try.func94, Try.ntmps94
  go_wp2_with fail
  go_loopw [3] (fun v3 wr => ∃ i : Nat, v3 = .int .i64 i ∧ i ≤ N ∧ Hid (wr = w)) (fun v3 _ => m - (intOf v3).toNat)
  case atStart => exact ⟨0, rfl, Nat.zero_le _, rfl⟩
  case round =>
    obtain ⟨i, rfl, hi, hst⟩ := hrel
    have hwr := hst.out
    subst hwr
    clear hst
    have hNm := HN1.out
    by_cases hlt : i < m
    · obtain ⟨z, hz⟩ : ∃ z, x[i]? = some z := ⟨_, List.getElem?_eq_getElem (by have := H.out.2; omega)⟩
      obtain ⟨b, off, rfl, hc⟩ := H.out.1.2.2.2.2.2 (by omega)
      have hcz := hc i hlt
      rw [List.getD_eq_getElem?_getD, hz, Option.getD_some] at hcz
      have hbl := block_lt_of_cell hcz
      have hdt : decide ((i : Int) < (m : Int)) = true := by simp; omega
      by_cases hiN : i < N
      · have HC : Hid (∀ W, Calls Try.prog 101 #[.int .i32 z] W fun e w' => e = .returned (.bool true) ∧ w' = W) := by
          intro W
          obtain ⟨z', e1, e2⟩ := HL.out i hiN
          rw [hz] at e1
          cases e1
          rw [← e2]
          exact kblank_any z W
        clear hz hc hNm
        go_wp2_with (go_at_call 101; (refine (HC.out _).mono ?_); rintro e wq ⟨rfl, hwq⟩; subst hwq)
        go_roundw
        case rel => exact ⟨i + 1, by go_num, by omega, (by first | trivial | rfl)⟩
        case measure => simp [intOf]; omega
      · obtain rfl : i = N := by omega
        have HC : Hid (∀ W, Calls Try.prog 101 #[.int .i32 z] W fun e w' => e = .returned (.bool false) ∧ w' = W) := by
          intro W
          have e2 := HE.out z hz
          rw [← e2]
          exact kblank_any z W
        clear hz hc hNm
        go_wp2_with (go_at_call 101; (refine (HC.out _).mono ?_); rintro e wq ⟨rfl, hwq⟩; subst hwq)
        go_ret
        exact ⟨rfl, rfl⟩
    · obtain rfl : i = N := by omega
      have hdt : decide ((i : Int) < (m : Int)) = false := by simp; omega
      clear hNm
      go_wp2_with fail
      go_ret
      exact ⟨rfl, rfl⟩
theorem kkind_any (k : Int) (w : World) :
    Calls Try.prog 76 #[.int .i64 k] w fun e w' => e = .returned (.bool (decide (0 ≤ k) && decide (k ≤ 2))) ∧ w' = w := by
  by_cases h0 : k = 0
  · subst h0
    go_enter Try.func76, Try.ntmps76
    go_wp2
    go_ret
    exact ⟨rfl, rfl⟩
  by_cases h1 : k = 1
  · subst h1
    go_enter Try.func76, Try.ntmps76
    go_wp2
    go_ret
    exact ⟨rfl, rfl⟩
  by_cases h2 : k = 2
  · subst h2
    go_enter Try.func76, Try.ntmps76
    go_wp2
    go_ret
    exact ⟨rfl, rfl⟩
  · have hr : (decide (0 ≤ k) && decide (k ≤ 2)) = false := by simp; omega
    rw [hr]
    have d0 : (k == 0) = false := by simpa using h0
    have d1 : (k == 1) = false := by simpa using h1
    have d2 : (k == 2) = false := by simpa using h2
    clear hr
    go_enter Try.func76, Try.ntmps76
    go_wp2
    go_ret
    exact ⟨rfl, rfl⟩
theorem copied_rd (a : Option Addr) (m c : Nat) (x : List Int) (w : World) (h : Rd .i32 w a m c x) (hm : m ≤ 17592186044416) :
    Calls Try.prog 41 #[.slice a m c] w fun e w' => ∃ a' c', e = .returned (.slice a' m c') ∧ w'.ownsRow w.heap.size 21 1 (.slice a' m c') m (ints x) ∧ Below w.heap.size w w' := by
  obtain ⟨a', c', w', hrun, ho, hb⟩ := app_rd w w.heap.size (.slice none 0 0) 0 [] a m c x (World.ownsRow_nil _ _ _ _) (Nat.le_refl _) h (by omega)
  rw [Nat.zero_add] at hrun ho
  rw [List.nil_append] at ho
  have HRUN := Lib.hid hrun
  have HF := Lib.hid (And.intro ho hb)
  clear hrun ho hb h
  go_enter Try.func41, Try.ntmps41
  go_wp2_with (at_builtin; go_must (with_reducible refine Lib.wpList_append_run _ rfl (.const (.slice none 0 0)) (.tmp 3) _ _ rfl _ _ rfl rfl _ _ (HRUN.out _) ?_))
  go_ret
  exact ⟨_, _, rfl, HF.out.1, HF.out.2⟩
set_option maxHeartbeats 1000000 in
theorem krunes_any (F : Nat → Prop) (a : Option Addr) (n c : Nat) (L : List (List Int)) (w : World) (h : RdL F w a n c L) (hs : sizeN (lens L) ≤ 4611686018427387904) :
    Calls Try.prog 86 #[.slice a n c] w fun e w' => e = .returned (.int .i64 ((sizeN (lens L) : Int) - 1)) ∧ w' = w := by
  have hl := h.len
  have hcnt := size_count L
  have hsm := h.small
  have H := Lib.hid (And.intro h hl)
  have HT : Hid (∀ i, sizeN (lens (L.take i)) ≤ sizeN (lens L)) := size_take_le L
  obtain ⟨S, hS⟩ : ∃ S, sizeN (lens L) = S := ⟨_, rfl⟩
  rw [hS] at hs HT ⊢
  have HS := Lib.hid hS
  have hnS : n ≤ S := by omega
  clear h hl hcnt hS
  go_enter Try.func86, Try.ntmps86
  go_wp2_with fail
  go_loopw [3, 11] (fun v3 v11 wr => ∃ (i s : Nat), v11 = .int .i64 i ∧ v3 = .int .i64 ((s : Int) - 1) ∧ i ≤ n ∧ s ≤ S + n ∧ Hid (s + i = n + sizeN (lens (L.take i)) ∧ wr = w)) (fun _ v11 _ => n - (intOf v11).toNat)
  case atStart => exact ⟨0, n, rfl, rfl, Nat.zero_le _, by omega, by simp [sizeN, lens], rfl⟩
  case round =>
    obtain ⟨i, s, rfl, rfl, hi, hsb, hst⟩ := hrel
    obtain ⟨hst1, hwr⟩ := hst.out
    subst hwr
    clear hst
    by_cases hlt : i < n
    · obtain ⟨x, hx⟩ : ∃ x, L[i]? = some x := ⟨_, List.getElem?_eq_getElem (by have := H.out.2; omega)⟩
      obtain ⟨b, off, xa, xc, rfl, hbl, _, hc, hrd, _⟩ := H.out.1.get (Below.refl _ _) hx
      have hst2 := size_take hx
      have hle := HT.out (i + 1)
      obtain ⟨y, hy⟩ : ∃ y, x.length = y := ⟨_, rfl⟩
      rw [hy] at hc hst2
      have hy1 : y ≤ S := by omega
      have HN : Hid (s + y + (i + 1) = n + sizeN (lens (L.take (i + 1))) ∧ wr = wr) := ⟨by omega, rfl⟩
      have hb2 : s + y ≤ S + n := by omega
      clear hx hrd hy hst1 hst2 hle
      have hwr1 : IntKind.i64.wrap ((s : Int) - 1 + (y : Int)) = (s : Int) - 1 + (y : Int) := by rw [IntKind.wrap_i64]; omega
      go_wp2_with fail
      go_roundw
      case rel => exact ⟨i + 1, s + y, by go_num, by first | go_num | (congr 1; omega), by omega, by omega, HN.out.1, (by first | trivial | rfl)⟩
      case measure => simp [intOf]; omega
    · obtain rfl : i = n := by omega
      rw [List.take_of_length_le (by have := H.out.2; omega), HS.out] at hst1
      obtain rfl : s = S := by omega
      go_wp2_with fail
      go_ret
      exact ⟨rfl, rfl⟩
theorem kroom_any (F : Nat → Prop) (a : Option Addr) (n c : Nat) (L : List (List Int)) (w : World) (h : RdL F w a n c L) (hs : sizeN (lens L) ≤ 1099511627776) :
    Calls Try.prog 61 #[.slice a n c] w fun e w' => e = .returned (.int .i64 (65537 - (sizeN (lens L) : Int))) ∧ w' = w := by
  have HC : Hid (∀ W, W = w → Calls Try.prog 86 #[.slice a n c] W fun e w' => e = .returned (.int .i64 ((sizeN (lens L) : Int) - 1)) ∧ w' = W) := by
    rintro W rfl
    exact krunes_any F a n c L W h (by omega)
  obtain ⟨S, hS⟩ : ∃ S, sizeN (lens L) = S := ⟨_, rfl⟩
  rw [hS] at HC hs ⊢
  have hw1 : IntKind.i64.wrap (65536 - ((S : Int) - 1)) = 65536 - ((S : Int) - 1) := by rw [IntKind.wrap_i64]; omega
  clear h hS
  go_enter Try.func61, Try.ntmps61
  go_wp2_with (go_at_call 86; (refine (HC.out _ rfl).mono ?_); rintro e wq ⟨rfl, hwq⟩; subst hwq)
  go_ret
  exact ⟨ret_i64K (by omega), rfl⟩
/-- how often, and whether there is room -/
theorem ktimes_0 (r m : Int) (w : World) :
    Calls Try.prog 85 #[.int .i64 r, .int .i64 0, .int .i64 m] w fun e w' => e = .returned (.tuple #[.int .i64 1, .bool (decide (0 ≤ r))]) ∧ Below w.heap.size w w' := by
  go_enter Try.func85, Try.ntmps85
  go_wp2
  go_ret2
  exact ⟨rfl, Below.refl _ _⟩
theorem times_ok {r s m : Int} (hs : 0 < s) (hm : 0 < m) : (m ≤ r.tdiv s) ↔ m * s ≤ r := by
  rcases Int.le_total 0 r with h | h
  · rw [Int.tdiv_eq_ediv_of_nonneg h]
    exact Int.le_ediv_iff_mul_le hs
  · constructor
    · intro h2
      have : r.tdiv s ≤ 0 := by
        have := Int.tdiv_nonneg (a := -r) (b := s) (by omega) (by omega)
        rw [Int.neg_tdiv] at this; omega
      omega
    · intro h2
      have : 0 < m * s := Int.mul_pos hm hs
      omega
theorem ktimes_pos (r s m : Int) (w : World) (hr : -4611686018427387904 ≤ r ∧ r ≤ 4611686018427387904) (hs : 0 < s) (hsb : i64b s) (hm : 0 < m) (hmb : i64b m) :
    Calls Try.prog 85 #[.int .i64 r, .int .i64 s, .int .i64 m] w fun e w' => e = .returned (.tuple #[.int .i64 m, .bool (decide (m * s ≤ r))]) ∧ Below w.heap.size w w' := by
  have h0 : (s == 0) = false := by simp; omega
  have h0' : ¬ s = 0 := by omega
  have hq := times_ok (r := r) hs hm
  have hd : decide (m ≤ r.tdiv s) = decide (m * s ≤ r) := by rw [decide_eq_decide]; exact hq
  obtain ⟨D, hD⟩ : ∃ D, decide (m * s ≤ r) = D := ⟨_, rfl⟩
  rw [hD] at hd ⊢
  have hwq : IntKind.i64.wrap (r.tdiv s) = r.tdiv s := by
    rw [IntKind.wrap_i64]
    have h1 : r.tdiv s ≤ 9223372036854775807 ∧ -9223372036854775808 ≤ r.tdiv s := by
      obtain ⟨r1, r2⟩ := hr
      have ha : (r.tdiv s).natAbs = r.natAbs / s.natAbs := Int.natAbs_tdiv r s
      have hb := Nat.div_le_self r.natAbs s.natAbs
      generalize r.tdiv s = t at ha ⊢
      generalize r.natAbs / s.natAbs = d at ha hb
      omega
    omega
  clear hq hD
  go_enter Try.func85, Try.ntmps85
  go_wp2_with fail
  go_quiet (fail)
  go_wp2_with fail
  go_ret2
  refine ⟨?_, ?_⟩
  · first | rfl | (simp only [hwq, hd]; done) | (simp [hwq, hd]; done)
  · exact bdrK (Below.refl _ _) _
end Go.Proofs.Ytfldjoiohejilaa.U
