/-
  The program's leaves: names, sizes, what is joined.
-/
import Derived.Test.YtleidcegbfnmkaaHPure
import Derived.Test.YtleidcegbfnmkaaGPutM
namespace Go.Proofs.Ytleidcegbfnmkaa.U
open Go.RowKit
set_option linter.unusedVariables false
set_option linter.unusedSimpArgs false
set_option maxRecDepth 100000

theorem pcap_any (c : Int) (w : World) : Calls Try.prog 33 #[.int .i32 c] w fun e w' => e = .returned (.bool (bigR c)) ∧ w' = w := by
  unfold bigR
  go_enter Try.func33, Try.ntmps33
  by_cases b1 : 65 ≤ c <;> by_cases b2 : c ≤ 90 <;>
  (go_wp2; go_ret; exact ⟨ret_boolG (by simp [b1, b2]), rfl⟩)
/-- a name under which something may be put -/
def putN (c : Int) : Bool := decide (c = 0) || decide (c = 34) || decide (c = 95) || littleR c || bigR c
theorem pput_any (c : Int) (w : World) : Calls Try.prog 29 #[.int .i32 c] w fun e w' => e = .returned (.bool (putN c)) ∧ w' = w := by
  unfold putN
  have HC := Lib.hid (pcap_any c w)
  by_cases e1 : c = 0
  · subst e1
    go_enter Try.func29, Try.ntmps29
    go_wp2_with fail
    go_ret
    exact ⟨rfl, rfl⟩
  by_cases e2 : c = 34
  · subst e2
    go_enter Try.func29, Try.ntmps29
    go_wp2_with fail
    go_ret
    exact ⟨rfl, rfl⟩
  by_cases e3 : c = 95
  · subst e3
    go_enter Try.func29, Try.ntmps29
    go_wp2_with fail
    go_ret
    exact ⟨rfl, rfl⟩
  have HE := Lib.hid (And.intro e1 (And.intro e2 e3))
  have f1 : (c == 0) = false := by simpa using e1
  have f2 : (c == 34) = false := by simpa using e2
  have f3 : (c == 95) = false := by simpa using e3
  clear e1 e2 e3
  unfold littleR
  go_enter Try.func29, Try.ntmps29
  by_cases b1 : 97 ≤ c
  · by_cases b2 : c ≤ 122
    · go_wp2_with fail
      go_ret
      exact ⟨ret_boolG (by simp [b1, b2]), rfl⟩
    · go_wp2_with (go_at_call 33; refine HC.out.mono ?_; rintro e w' ⟨rfl, rfl⟩)
      go_ret
      refine ⟨ret_boolG ?_, rfl⟩
      obtain ⟨h1, h2, h3⟩ := HE.out
      simp [b1, h1, h2, h3]
      omega
  · go_wp2_with (go_at_call 33; refine HC.out.mono ?_; rintro e w' ⟨rfl, rfl⟩)
    go_ret
    refine ⟨ret_boolG ?_, rfl⟩
    obtain ⟨h1, h2, h3⟩ := HE.out
    simp [h1, h2, h3]
    omega
/-- a box laid -/
theorem box_new (w : World) (k : Int) (a : Option Addr) (n c : Nat) : ∀ W, Below (w.heap.size + 1) (w.alloc (.cells #[.int .i64 k, .slice a n c] 31)) W → BoxS W w.heap.size k a n c := by
  intro W hW
  have g := (hW.block w.heap.size (by omega)).trans (heap_alloc_new w (.cells #[.int .i64 k, .slice a n c] 31))
  exact BoxS.of g
set_option maxHeartbeats 1000000 in
theorem psz_any (F : Nat → Prop) (k : Int) (a : Option Addr) (n c : Nat) (L : List (List Int)) (w : World) (h : RdL F w a n c L) (hs : sizeR L ≤ 4611686018427387904) :
    Calls Try.prog 41 #[rgV k a n c] w fun e w' => e = .returned (.int .i64 (sizeR L : Nat)) ∧ Below w.heap.size w w' := by
  unfold rgV
  obtain ⟨wb, hwb⟩ : ∃ wb, w.alloc (.cells #[.int .i64 k, .slice a n c] 31) = wb := ⟨_, rfl⟩
  have hbx := box_new w k a n c
  rw [hwb] at hbx
  have hsz : wb.heap.size = w.heap.size + 1 := by rw [← hwb]; simp
  have hB : Below w.heap.size w wb := by rw [← hwb]; exact (Below.refl _ _).alloc (Nat.le_refl _) _
  have hx := hbx wb (Below.refl _ _)
  have h := h.below hB
  have hl := h.len
  have hsm := h.small
  have H := Lib.hid (And.intro h (And.intro hl hs))
  have HB := Lib.hid hB
  have HW := Lib.hid hwb
  clear h hl hs hwb hB hbx hsz
  obtain ⟨b, hbe⟩ : ∃ b, w.heap.size = b := ⟨_, rfl⟩
  have HBE := Lib.hid hbe
  rw [hbe] at hx
  clear hbe
  obtain ⟨q0, q1, y0, y1, l0⟩ := hx
  go_enter Try.func41, Try.ntmps41
  go_upto_region 1 with fail
  rw [HW.out, HBE.out]
  go_wp2
  go_loopw [3, 12] (fun v iv wr => ∃ N i : Nat, v = .int .i64 N ∧ iv = .int .i64 i ∧ i ≤ n ∧ Hid (wr = wb) ∧ Hid (N = n + (sizeR (L.take i) - i)) ∧ N ≤ 4611686018427387904) (fun _ iv _ => n - (intOf iv).toNat)
  case atStart => exact ⟨n, 0, rfl, rfl, Nat.zero_le _, rfl, (by simp [Hid, sizeR, lens, sizeN]), by have := size_count L; have := H.out.2; unfold sizeR at this; omega⟩
  case round =>
    obtain ⟨N, i, rfl, rfl, hin, HWR, HN, hN⟩ := hrel
    by_cases hlt : i < n
    · obtain ⟨x, hx⟩ : ∃ x, L[i]? = some x := ⟨L[i]'(by have := H.out.2.1; omega), List.getElem?_eq_getElem _⟩
      have hwr := HWR.out
      subst hwr
      obtain ⟨b', off, ra, rc, rfl, hbl, hF, e0, hrd, -, -⟩ := H.out.1.get (Below.refl _ _) hx
      have hst : sizeR (L.take (i + 1)) = sizeR (L.take i) + (x.length + 1) := size_take hx
      have hle : sizeR (L.take (i + 1)) ≤ sizeR L := size_take_le L (i + 1)
      have hct : i ≤ sizeR (L.take i) := by
        have := size_count (L.take i)
        rw [List.length_take, H.out.2.1, Nat.min_eq_left (by omega)] at this
        exact this
      have hmx := hrd.small
      have hcl : n - i - 1 ≤ sizeR (L.drop (i + 1)) := by
        have := size_count (L.drop (i + 1))
        rw [List.length_drop, H.out.2.1] at this
        unfold sizeR
        omega
      have hsum : sizeR (L.take (i + 1)) + sizeR (L.drop (i + 1)) = sizeR L := by rw [← size_app, List.take_append_drop]
      have HA := Lib.hid (And.intro hst (And.intro hle (And.intro hct (And.intro hcl hsum))))
      obtain ⟨m, hm⟩ : ∃ m, x.length = m := ⟨_, rfl⟩
      rw [hm] at e0 hmx HA
      have hNm : N + m ≤ 4611686018427387904 := by
        have h1 := HN.out
        have h2 := HA.out
        have h3 := H.out.2.2
        omega
      clear hst hle hct hcl hsum hrd hm hx
      go_wp2
      go_roundw
      case rel => exact ⟨N + m, i + 1, by first | rfl | go_num, by first | rfl | go_num, by omega, (by first | trivial | rfl), (by have h1 := HN.out; have h2 := HA.out; show _ = _; omega), hNm⟩
      case measure => simp [intOf]; omega
    · obtain rfl : i = n := by omega
      have hwr := HWR.out
      subst hwr
      go_wp2
      go_ret
      refine ⟨?_, HB.out⟩
      have h1 := HN.out
      rw [List.take_of_length_le (by rw [H.out.2.1]; omega)] at h1
      have h2 := size_count L
      have h3 := H.out.2.1
      unfold sizeR at h1 ⊢
      have : N = sizeN (lens L) := by omega
      rw [this]
      rfl
/-- what may be put -/
def regB (k : Int) (L : List (List Int)) : Bool := decide (0 ≤ k) && decide (k ≤ 2) && decide (sizeR L ≤ 65536)
set_option maxHeartbeats 1000000 in
theorem preg_any (F : Nat → Prop) (k : Int) (a : Option Addr) (n c : Nat) (L : List (List Int)) (w : World) (h : RdL F w a n c L) (hs : sizeR L ≤ 4611686018427387904) :
    Calls Try.prog 30 #[rgV k a n c] w fun e w' => e = .returned (.bool (regB k L)) ∧ Below w.heap.size w w' := by
  obtain ⟨wb, hwb⟩ : ∃ wb, w.alloc (.cells #[.int .i64 k, .slice a n c] 31) = wb := ⟨_, rfl⟩
  have hbx := box_new w k a n c
  rw [hwb] at hbx
  have hsz : wb.heap.size = w.heap.size + 1 := by rw [← hwb]; simp
  have hB : Below w.heap.size w wb := by rw [← hwb]; exact (Below.refl _ _).alloc (Nat.le_refl _) _
  have hx := hbx wb (Below.refl _ _)
  have HS := Lib.hid (psz_any F k a n c L wb (h.below hB) hs)
  have HB := Lib.hid (And.intro hB hsz)
  have HW := Lib.hid hwb
  clear h hwb hB hbx hsz hs
  obtain ⟨b, hbe⟩ : ∃ b, w.heap.size = b := ⟨_, rfl⟩
  have HBE := Lib.hid hbe
  rw [hbe] at hx
  clear hbe
  obtain ⟨q0, q1, y0, y1, l0⟩ := hx
  obtain ⟨N, hN⟩ : ∃ N, sizeR L = N := ⟨_, rfl⟩
  unfold regB
  rw [hN] at HS ⊢
  clear hN
  unfold rgV at HS ⊢
  go_enter Try.func30, Try.ntmps30
  go_upto_region 1 with fail
  rw [HW.out, HBE.out]
  by_cases e0 : k = 0
  · have f0 : (k == 0) = true := by simpa using e0
    have HK := Lib.hid e0
    clear e0
    go_wp2_with (go_at_call 41; refine HS.out.mono ?_; rintro e w1 ⟨rfl, hb1⟩)
    go_ret
    exact ⟨ret_boolG (by simp [HK.out]; omega), HB.out.1.trans (hb1.mono (by have := HB.out.2; omega))⟩
  by_cases e1 : k = 1
  · have f0 : (k == 0) = false := by simpa using e0
    have f1 : (k == 1) = true := by simpa using e1
    have HK := Lib.hid e1
    clear e0 e1
    go_wp2_with (go_at_call 41; refine HS.out.mono ?_; rintro e w1 ⟨rfl, hb1⟩)
    go_ret
    exact ⟨ret_boolG (by simp [HK.out]; omega), HB.out.1.trans (hb1.mono (by have := HB.out.2; omega))⟩
  by_cases e2 : k = 2
  · have f0 : (k == 0) = false := by simpa using e0
    have f1 : (k == 1) = false := by simpa using e1
    have f2 : (k == 2) = true := by simpa using e2
    have HK := Lib.hid e2
    clear e0 e1 e2
    go_wp2_with (go_at_call 41; refine HS.out.mono ?_; rintro e w1 ⟨rfl, hb1⟩)
    go_ret
    exact ⟨ret_boolG (by simp [HK.out]; omega), HB.out.1.trans (hb1.mono (by have := HB.out.2; omega))⟩
  · have f0 : (k == 0) = false := by simpa using e0
    have f1 : (k == 1) = false := by simpa using e1
    have f2 : (k == 2) = false := by simpa using e2
    have HK := Lib.hid (And.intro e0 (And.intro e1 e2))
    clear e0 e1 e2
    go_wp2_with fail
    go_ret
    refine ⟨ret_boolG ?_, HB.out.1⟩
    obtain ⟨h0, h1, h2⟩ := HK.out
    have : ¬ (0 ≤ k ∧ k ≤ 2) := by omega
    simp only [Bool.false_eq, Bool.and_eq_false_iff, decide_eq_false_iff_not]
    omega
/-- the last line and the first one become one -/
def joinsB (n : Nat) (k1 k2 : Int) : Bool := decide (0 < n) && decide (k1 = 0) && decide (k2 = 0)
set_option maxHeartbeats 1000000 in
theorem pjoins_any (k1 k2 : Int) (a1 a2 : Option Addr) (n1 n2 c1 c2 : Nat) (w : World) (hn : n1 ≤ 9223372036854775807) :
    Calls Try.prog 42 #[rgV k1 a1 n1 c1, rgV k2 a2 n2 c2] w fun e w' => e = .returned (.bool (joinsB n1 k1 k2)) ∧ Below w.heap.size w w' := by
  unfold rgV joinsB
  obtain ⟨wb, hwb⟩ : ∃ wb, (w.alloc (.cells #[.int .i64 k1, .slice a1 n1 c1] 31)).alloc (.cells #[.int .i64 k2, .slice a2 n2 c2] 31) = wb := ⟨_, rfl⟩
  have hfou := fou_new w (.int .i64 k1) (.slice a1 n1 c1) (.int .i64 k2) (.slice a2 n2 c2)
  rw [hwb] at hfou
  have hsz : wb.heap.size = w.heap.size + 2 := by rw [← hwb]; simp
  have hB : Below w.heap.size w wb := by rw [← hwb]; exact ((Below.refl _ _).alloc (Nat.le_refl _) _).alloc (by simp) _
  rw [← hsz] at hfou
  have hx := hfou wb (Below.refl _ _)
  have HB := Lib.hid (And.intro hB hsz)
  have HW := Lib.hid hwb
  clear hwb hB hfou hsz
  obtain ⟨b, hbe⟩ : ∃ b, w.heap.size = b := ⟨_, rfl⟩
  have HBE := Lib.hid hbe
  rw [hbe] at hx
  clear hbe
  obtain ⟨q0, q1, d0, d1, y0, y1, z0, z1, l0, l1⟩ := hx
  go_enter Try.func42, Try.ntmps42
  go_upto_region 1 with fail
  rw [HW.out, HBE.out]
  by_cases hp : 0 < n1
  · by_cases hk1 : k1 = 0
    · have f1 : (k1 == 0) = true := by simpa using hk1
      have HK := Lib.hid hk1
      clear hk1
      by_cases hk2 : k2 = 0
      · have f2 : (k2 == 0) = true := by simpa using hk2
        have HK2 := Lib.hid hk2
        clear hk2
        go_wp2_with fail
        go_ret
        exact ⟨ret_boolG (by simp [HK.out, HK2.out, hp]), HB.out.1⟩
      · have f2 : (k2 == 0) = false := by simpa using hk2
        have HK2 := Lib.hid hk2
        clear hk2
        go_wp2_with fail
        go_ret
        exact ⟨ret_boolG (by simp [HK.out, HK2.out, hp]), HB.out.1⟩
    · have f1 : (k1 == 0) = false := by simpa using hk1
      have HK := Lib.hid hk1
      clear hk1
      go_wp2_with fail
      go_ret
      exact ⟨ret_boolG (by simp [HK.out, hp]), HB.out.1⟩
  · go_wp2_with fail
    go_ret
    exact ⟨ret_boolG (by simp [hp]), HB.out.1⟩
end Go.Proofs.Ytleidcegbfnmkaa.U
