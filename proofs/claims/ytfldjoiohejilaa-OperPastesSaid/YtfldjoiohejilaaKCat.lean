/-
  slices.Grow and slices.Concat of rows of runes, and of rows of lines; slices.Repeat of blanks; allCopied.
-/
import Derived.Test.YtfldjoiohejilaaKLeaf
namespace Go.Proofs.Ytfldjoiohejilaa.U
open Go.RowKit
set_option linter.unusedVariables false
set_option linter.unusedSimpArgs false
set_option maxRecDepth 100000

theorem growR_0 (w : World) :
    Calls Try.prog 79 #[.slice none 0 0, .int .i64 0] w fun e w' => e = .returned (.slice none 0 0) ∧ w = w' := by
  go_enter Try.func79, Try.ntmps79
  go_wp2
  go_ret
  exact ⟨rfl, rfl⟩
theorem growR_pos (n : Nat) (w : World) (h0 : 0 < n) (hn : n ≤ 1099511627776) :
    Calls Try.prog 79 #[.slice none 0 0, .int .i64 n] w fun e w' => ∃ v, e = .returned v ∧ w'.ownsRow w.heap.size 21 1 v 0 [] ∧ Below w.heap.size w w' := by
  obtain ⟨i0, hi, hz0, hz1, hz2⟩ := info_parts infoI
  have hpos : (0 : Int) < n := by omega
  have hrun := Lib.run_append_nil_zeros (P := Try.prog) w 35 3 35 21 i0 (.int .i32 0) .i64 .i64 Try.underlying35 Try.underlying3 hi hz0 n h0 (by rw [hz1]; decide) (by omega) (by rw [hz2]; omega)
  have HR := Lib.hid hrun; clear hrun
  go_enter Try.func79, Try.ntmps79
  go_wp2_with (at_builtin; go_must (refine Lib.wpList_append_run _ rfl _ _ _ _ rfl _ _ rfl rfl _ _ HR.out ?_))
  go_ret
  refine ⟨_, rfl, World.ownsRow_made w.drew _ _ (Nat.le_refl _) (grownCap_le_maxLen _ _ _ _ (by unfold maxLen; omega)) ?_, ((Below.refl _ _).drew.alloc (by simp) _)⟩
  have hge := grownCap_ge w n 0 21
  simp only [Array.size_append, size_zeroCells]
  have h1 : (#[.int .i32 0] : Array Value).size = 1 := rfl
  simp only [Value.cells, h1]; omega
theorem growR_any (z : Int) (n : Nat) (w : World) (hz : z = n) (hn : n ≤ 1099511627776) :
    Calls Try.prog 79 #[.slice none 0 0, .int .i64 z] w fun e w' => ∃ v, e = .returned v ∧ w'.ownsRow w.heap.size 21 1 v 0 [] ∧ Below w.heap.size w w' := by
  subst hz
  by_cases h0 : n = 0
  · subst h0
    exact (growR_0 w).mono fun e w' ⟨h1, h2⟩ => ⟨_, h1, by subst h2; exact World.ownsRow_nil _ _ _ _, by subst h2; exact Below.refl _ _⟩
  · exact growR_pos n w (by omega) hn
theorem flat_succ {L : List (List Int)} {i : Nat} {x : List Int} (h : L[i]? = some x) : (L.take (i + 1)).flatten = (L.take i).flatten ++ x := by
  rw [take_snocI h, List.flatten_append]; simp
theorem flat_len (L : List (List Int)) : L.flatten.length + L.length = sizeN (lens L) := by
  rw [List.length_flatten, sizeN_sum, lens_len]
  rfl
set_option maxHeartbeats 2000000 in
theorem kcatR (F : Nat → Prop) (a : Option Addr) (n c : Nat) (L : List (List Int)) (w : World) (h : RdL F w a n c L) (hs : sizeN (lens L) ≤ 1099511627776) :
    Calls Try.prog 46 #[.slice a n c] w fun e w' => ∃ a' c', e = .returned (.slice a' L.flatten.length c') ∧
      w'.ownsRow w.heap.size 21 1 (.slice a' L.flatten.length c') L.flatten.length (ints L.flatten) ∧ Below w.heap.size w w' := by
  have hl := h.len
  have hsm := h.small
  have hfl := flat_len L
  have H := Lib.hid (And.intro h hl)
  have HT : Hid (∀ i, sizeN (lens (L.take i)) ≤ 1099511627776) := fun i => Nat.le_trans (size_take_le L i) hs
  obtain ⟨N, hN⟩ : ∃ N, L.flatten.length = N := ⟨_, rfl⟩
  have hNb : N ≤ 1099511627776 := by omega
  have HN0 := Lib.hid hN
  rw [hN]
  clear h hl hfl hN hs
  go_enter Try.func46, Try.ntmps46
  go_wp2_with fail
  go_loopw [3, 11] (fun v3 v11 wr => ∃ (i s : Nat), v11 = .int .i64 i ∧ v3 = .int .i64 (s : Nat) ∧ i ≤ n ∧ s ≤ 1099511627776 ∧ Hid (s = (L.take i).flatten.length ∧ wr = w)) (fun _ v11 _ => n - (intOf v11).toNat)
  case atStart => exact ⟨0, 0, rfl, rfl, Nat.zero_le _, by omega, rfl, rfl⟩
  case round =>
    obtain ⟨i, s, rfl, rfl, hi, hsb, hst⟩ := hrel
    obtain ⟨hst1, hwr⟩ := hst.out
    subst hwr
    clear hst
    by_cases hlt : i < n
    · obtain ⟨x, hx⟩ : ∃ x, L[i]? = some x := ⟨_, List.getElem?_eq_getElem (by have := H.out.2; omega)⟩
      obtain ⟨b, off, xa, xc, rfl, hbl, _, hc, hrd, _⟩ := H.out.1.get (Below.refl _ _) hx
      have hst2 := flat_succ hx
      have hle := HT.out (i + 1)
      have hfl := flat_len (L.take (i + 1))
      have hst3 := congrArg List.length hst2
      rw [List.length_append] at hst3
      obtain ⟨y, hy⟩ : ∃ y, x.length = y := ⟨_, rfl⟩
      rw [hy] at hc hst3
      have hb2 : s + y ≤ 1099511627776 := by omega
      have HN : Hid (s + y = (L.take (i + 1)).flatten.length ∧ wr = wr) := ⟨by omega, rfl⟩
      clear hx hrd hy hst1 hst2 hle hfl hst3
      go_wp2_with fail
      go_roundw
      case rel => exact ⟨i + 1, s + y, by go_num, by first | rfl | go_num, by omega, hb2, HN.out.1, (by first | trivial | rfl)⟩
      case measure => simp [intOf]; omega
    · obtain rfl : i = n := by omega
      rw [List.take_of_length_le (by have := H.out.2; omega), HN0.out] at hst1
      subst hst1
      go_wp2_with fail
      refine (growR_any _ s _ rfl hNb).mono ?_
      rintro e w1 ⟨v1, rfl, hown1, hb1⟩
      obtain ⟨a1, c1, rfl⟩ := own_slice hown1
      have HO1 : Hid (w1.ownsRow wr.heap.size 21 1 (.slice a1 0 c1) 0 (ints (L.take 0).flatten) ∧ Below wr.heap.size wr w1) := ⟨hown1, hb1⟩
      clear hown1 hb1
      obtain ⟨w, hw⟩ : ∃ w, w = wr := ⟨_, rfl⟩
      subst hw
      go_wp2_with fail
      go_loopw [6, 27] (fun v6 v27 wq => ∃ (j m : Nat) (ra : Option Addr) (rc : Nat), v27 = .int .i64 j ∧ v6 = .slice ra m rc ∧ j ≤ i ∧ m ≤ 1099511627776 ∧ Hid (m = (L.take j).flatten.length ∧ wq.ownsRow w.heap.size 21 1 (.slice ra m rc) m (ints (L.take j).flatten) ∧ Below w.heap.size w wq)) (fun _ v27 _ => i - (intOf v27).toNat)
      case atStart => exact ⟨0, 0, _, _, rfl, rfl, Nat.zero_le _, by omega, rfl, HO1.out.1, HO1.out.2⟩
      case round =>
        obtain ⟨j, m, ra, rc, rfl, rfl, hj, hmb, hst⟩ := hrel
        clear HO1
        by_cases hlt : j < i
        · obtain ⟨x, hx⟩ : ∃ x, L[j]? = some x := ⟨_, List.getElem?_eq_getElem (by have := H.out.2; omega)⟩
          obtain ⟨b, off, xa, xc, rfl, hbl, _, hc, hrd, _⟩ := H.out.1.get hst.out.2.2 hx
          have hbr : b < wr.heap.size := by have := hst.out.2.2.size; omega
          have hst2 := flat_succ hx
          have hle := HT.out (j + 1)
          have hfl := flat_len (L.take (j + 1))
          have hst3 := congrArg List.length hst2
          rw [List.length_append] at hst3
          have hm1 := hst.out.1
          obtain ⟨y, hy⟩ : ∃ y, x.length = y := ⟨_, rfl⟩
          rw [hy] at hc hst3 hrd
          have hb2 : m + y ≤ 1099511627776 := by omega
          obtain ⟨a2, c2, w2, hrun, ho2, hbb⟩ := app_rd wr w.heap.size _ m _ xa y xc x hst.out.2.1 hst.out.2.2.size hrd (by omega)
          have HRUN := Lib.hid hrun
          have HN : Hid (m + y = (L.take (j + 1)).flatten.length ∧ w2.ownsRow w.heap.size 21 1 (.slice a2 (m + y) c2) (m + y) (ints (L.take (j + 1)).flatten) ∧ Below w.heap.size w w2) := ⟨by omega, by rw [hst2]; exact ho2, hst.out.2.2.trans hbb⟩
          clear hx hrd hy hst hst2 hle hfl hst3 hm1 hrun ho2 hbb hbl
          go_wp2_with (at_builtin; go_must (with_reducible refine Lib.wpList_append_run _ rfl (.tmp 31) (.tmp 32) _ _ rfl _ _ rfl rfl _ _ (HRUN.out _) ?_))
          go_roundw
          case rel => exact ⟨j + 1, m + y, a2, c2, by go_num, rfl, by omega, hb2, HN.out⟩
          case measure => simp [intOf]; omega
        · obtain rfl : j = i := by omega
          have HF : Hid (m = s ∧ wr.ownsRow w.heap.size 21 1 (.slice ra m rc) m (ints L.flatten) ∧ Below w.heap.size w wr) := by
            have h1 := hst.out
            rw [List.take_of_length_le (by have := H.out.2; omega), HN0.out] at h1
            exact h1
          clear hst
          obtain rfl : m = s := HF.out.1
          go_wp2_with fail
          go_ret
          exact ⟨_, _, rfl, HF.out.2.1, HF.out.2.2⟩
/-- Concat of two, of three that are written out -/
theorem kcat2 (w W2 : World) (a1 a2 : Option Addr) (n1 c1 n2 c2 : Nat) (x y : List Int) (h1 : Rd .i32 w a1 n1 c1 x) (h2 : Rd .i32 w a2 n2 c2 y) (hb : n1 + n2 ≤ 549755813888) (hW2 : W2 = w.alloc (.cells #[.slice a1 n1 c1, .slice a2 n2 c2] 35) ∨ W2 = (w.alloc (.cells #[.slice a1 n1 c1, .slice a2 n2 c2] 35)).drew) :
    Calls Try.prog 46 #[.slice (some ⟨w.heap.size, 0, none⟩) 2 2] W2 fun e w' => ∃ a' c', e = .returned (.slice a' (n1 + n2) c') ∧
      w'.ownsRow w.heap.size 21 1 (.slice a' (n1 + n2) c') (n1 + n2) (ints (x ++ y)) ∧ Below w.heap.size w w' := by
  have hr : RowsAt (fun k => k < w.heap.size) w [.slice a1 n1 c1, .slice a2 n2 c2] [x, y] := by
    have := (RowsAt.one h1 h1.inHeap).append (RowsAt.one h2 h2.inHeap)
    exact this
  have hL := rdl_new w _ _ 2 rfl (by omega) hr #[.slice a1 n1 c1, .slice a2 n2 c2] rfl
  have e1 := h1.1
  have e2 := h2.1
  have hB : Below w.heap.size w W2 := by
    rcases hW2 with rfl | rfl
    · exact bal w _
    · exact (bal w _).drew
  have hL2 : RdL (fun k => k < w.heap.size + 1) W2 (some ⟨w.heap.size, 0, none⟩) 2 2 [x, y] := by
    rcases hW2 with rfl | rfl
    · exact hL
    · exact hL.below (Below.refl _ _).drew
  refine (kcatR _ _ 2 2 [x, y] _ hL2 (by have := flat_len [x, y]; simp at this; omega)).mono ?_
  rintro e w' ⟨a', c', rfl, ho, hb2⟩
  have e3 : [x, y].flatten = x ++ y := by simp
  have e4 : (x ++ y).length = n1 + n2 := by simp [e1, e2]
  rw [e3, e4] at ho ⊢
  exact ⟨a', c', rfl, own_mono ho hB.size, hB.trans (hb2.mono hB.size)⟩
theorem kcat3 (w W2 : World) (a1 a2 a3 : Option Addr) (n1 c1 n2 c2 n3 c3 : Nat) (x y z : List Int) (h1 : Rd .i32 w a1 n1 c1 x) (h2 : Rd .i32 w a2 n2 c2 y) (h3 : Rd .i32 w a3 n3 c3 z) (hb : n1 + n2 + n3 ≤ 549755813888) (hW2 : W2 = w.alloc (.cells #[.slice a1 n1 c1, .slice a2 n2 c2, .slice a3 n3 c3] 35) ∨ W2 = (w.alloc (.cells #[.slice a1 n1 c1, .slice a2 n2 c2, .slice a3 n3 c3] 35)).drew) :
    Calls Try.prog 46 #[.slice (some ⟨w.heap.size, 0, none⟩) 3 3] W2 fun e w' => ∃ a' c', e = .returned (.slice a' (n1 + n2 + n3) c') ∧
      w'.ownsRow w.heap.size 21 1 (.slice a' (n1 + n2 + n3) c') (n1 + n2 + n3) (ints (x ++ y ++ z)) ∧ Below w.heap.size w w' := by
  have hr : RowsAt (fun k => k < w.heap.size) w [.slice a1 n1 c1, .slice a2 n2 c2, .slice a3 n3 c3] [x, y, z] := by
    have := ((RowsAt.one h1 h1.inHeap).append (RowsAt.one h2 h2.inHeap)).append (RowsAt.one h3 h3.inHeap)
    exact this
  have hL := rdl_new w _ _ 3 rfl (by omega) hr #[.slice a1 n1 c1, .slice a2 n2 c2, .slice a3 n3 c3] rfl
  have e1 := h1.1
  have e2 := h2.1
  have e3 := h3.1
  have hB : Below w.heap.size w W2 := by
    rcases hW2 with rfl | rfl
    · exact bal w _
    · exact (bal w _).drew
  have hL2 : RdL (fun k => k < w.heap.size + 1) W2 (some ⟨w.heap.size, 0, none⟩) 3 3 [x, y, z] := by
    rcases hW2 with rfl | rfl
    · exact hL
    · exact hL.below (Below.refl _ _).drew
  refine (kcatR _ _ 3 3 [x, y, z] _ hL2 (by have := flat_len [x, y, z]; simp at this; omega)).mono ?_
  rintro e w' ⟨a', c', rfl, ho, hb2⟩
  have e4 : [x, y, z].flatten = x ++ y ++ z := by simp
  have e5 : (x ++ y ++ z).length = n1 + n2 + n3 := by simp [e1, e2, e3]; omega
  rw [e4, e5] at ho ⊢
  exact ⟨a', c', rfl, own_mono ho hB.size, hB.trans (hb2.mono hB.size)⟩
theorem kspaces_any (n : Nat) (w : World) (hn : n ≤ 1073741824) :
    Calls Try.prog 95 #[.int .i64 n] w fun e w' => ∃ a c, e = .returned (.slice a n c) ∧ w'.ownsRow w.heap.size 21 1 (.slice a n c) n (ints (blanksR n)) ∧ Below w.heap.size w w' := by
  have HC : Hid (∀ W, W = w → Calls Try.prog 74 #[.slice (some ⟨W.heap.size, 0, none⟩) 1 1, .int .i64 n] (W.alloc (.cells #[.int .i32 32] 21)) fun e w' => ∃ a c, e = .returned (.slice a n c) ∧ Hid (w'.ownsRow w.heap.size 21 1 (.slice a n c) n (ints (blanksR n)) ∧ Below w.heap.size w w')) := by
    rintro W rfl
    have hB := bal W (.cells #[.int .i32 32] 21)
    refine (repeat_any W.heap.size 32 n _ (cell_row (heap_alloc_new W _) 0) hn).mono ?_
    rintro e w' ⟨v, rfl, ho, hb⟩
    obtain ⟨a, c, rfl⟩ := own_slice ho
    have e1 : ints (blanksR n) = List.replicate n (.int .i32 32) := by simp [ints, blanksR]
    exact ⟨a, c, rfl, by rw [e1]; exact own_mono ho hB.size, hB.trans (hb.mono hB.size)⟩
  go_enter Try.func95, Try.ntmps95
  go_wp2_with (go_at_call 74; (refine (HC.out _ rfl).mono ?_); rintro e w1 ⟨a, c, rfl, HF⟩)
  go_ret
  exact ⟨_, _, rfl, HF.out.1, HF.out.2⟩
end Go.Proofs.Ytfldjoiohejilaa.U
