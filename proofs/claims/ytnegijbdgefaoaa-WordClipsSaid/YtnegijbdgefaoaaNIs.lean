/-
  The document's 'is': is a place of a kind? (MADE by wip/tools/gen_is9.py.)
-/
import Derived.Test.YtnegijbdgefaoaaNSen2
namespace Go.Proofs.Ytnegijbdgefaoaa.U
open Go.RowKit
set_option linter.unusedVariables false
set_option linter.unusedSimpArgs false
set_option maxRecDepth 100000

theorem ris0 (F : Nat → Prop) (a : Option Addr) (n c : Nat) (L : List (List Int)) (p : Pl) (w : World) (h : RdL F w a n c L) (hp : okP L p) :
    Calls Try.prog 36 #[.slice a n c, plV p, .int .i64 0] w fun e w' => e = .returned (.bool (isK L 0 p)) ∧ Below w.heap.size w w' := by
  obtain ⟨w1, hw1⟩ : ∃ w1, w.alloc (.cells #[.int .i64 (p.1 : Nat), .int .i64 (p.2 : Nat)] 24) = w1 := ⟨_, rfl⟩
  have hb1 : Below w.heap.size w w1 := by rw [← hw1]; exact bal _ _
  have g1 : w1.heap[w.heap.size]? = some (.cells #[.int .i64 (p.1 : Nat), .int .i64 (p.2 : Nat)] 24 (0, 0)) := by rw [← hw1]; exact heap_alloc_new w _
  have hr : isK L 0 p = begins false (lnL L p.1) p.2 := rfl
  have HCL := Lib.hid (rbegins_any F a n c L p false w1 (h.below hb1) hp)
  rw [hr]
  obtain ⟨r, hrr⟩ : ∃ r, begins false (lnL L p.1) p.2 = r := ⟨_, rfl⟩
  rw [hrr] at HCL ⊢
  obtain ⟨a0, a1, z0, z1⟩ := row2 g1
  obtain ⟨i, j⟩ := p
  unfold plV at HCL ⊢
  simp only at a0 a1 hw1 HCL ⊢
  have HW1 := Lib.hid hw1
  have HB1 := Lib.hid hb1
  clear h hp g1 hw1 hb1 hr hrr
  go_enter Try.func36, Try.ntmps36
  go_upto_region 1 with fail
  rw [HW1.out]
  go_wp2_with (go_at_call 26; refine HCL.out.mono ?_; rintro e w' ⟨rfl, hb2⟩; have HB2 := Lib.hid hb2; clear hb2)
  go_ret
  exact ⟨rfl, HB1.out.trans (HB2.out.mono HB1.out.size)⟩
theorem ris1 (F : Nat → Prop) (a : Option Addr) (n c : Nat) (L : List (List Int)) (p : Pl) (w : World) (h : RdL F w a n c L) (hp : okP L p) :
    Calls Try.prog 36 #[.slice a n c, plV p, .int .i64 1] w fun e w' => e = .returned (.bool (isK L 1 p)) ∧ Below w.heap.size w w' := by
  obtain ⟨w1, hw1⟩ : ∃ w1, w.alloc (.cells #[.int .i64 (p.1 : Nat), .int .i64 (p.2 : Nat)] 24) = w1 := ⟨_, rfl⟩
  have hb1 : Below w.heap.size w w1 := by rw [← hw1]; exact bal _ _
  have g1 : w1.heap[w.heap.size]? = some (.cells #[.int .i64 (p.1 : Nat), .int .i64 (p.2 : Nat)] 24 (0, 0)) := by rw [← hw1]; exact heap_alloc_new w _
  have hr : isK L 1 p = begins true (lnL L p.1) p.2 := rfl
  have HCL := Lib.hid (rbegins_any F a n c L p true w1 (h.below hb1) hp)
  rw [hr]
  obtain ⟨r, hrr⟩ : ∃ r, begins true (lnL L p.1) p.2 = r := ⟨_, rfl⟩
  rw [hrr] at HCL ⊢
  obtain ⟨a0, a1, z0, z1⟩ := row2 g1
  obtain ⟨i, j⟩ := p
  unfold plV at HCL ⊢
  simp only at a0 a1 hw1 HCL ⊢
  have HW1 := Lib.hid hw1
  have HB1 := Lib.hid hb1
  clear h hp g1 hw1 hb1 hr hrr
  go_enter Try.func36, Try.ntmps36
  go_upto_region 1 with fail
  rw [HW1.out]
  go_wp2_with (go_at_call 26; refine HCL.out.mono ?_; rintro e w' ⟨rfl, hb2⟩; have HB2 := Lib.hid hb2; clear hb2)
  go_ret
  exact ⟨rfl, HB1.out.trans (HB2.out.mono HB1.out.size)⟩
theorem ris2 (F : Nat → Prop) (a : Option Addr) (n c : Nat) (L : List (List Int)) (p : Pl) (w : World) (h : RdL F w a n c L) (hp : okP L p) :
    Calls Try.prog 36 #[.slice a n c, plV p, .int .i64 2] w fun e w' => e = .returned (.bool (isK L 2 p)) ∧ Below w.heap.size w w' := by
  obtain ⟨w1, hw1⟩ : ∃ w1, w.alloc (.cells #[.int .i64 (p.1 : Nat), .int .i64 (p.2 : Nat)] 24) = w1 := ⟨_, rfl⟩
  have hb1 : Below w.heap.size w w1 := by rw [← hw1]; exact bal _ _
  have g1 : w1.heap[w.heap.size]? = some (.cells #[.int .i64 (p.1 : Nat), .int .i64 (p.2 : Nat)] 24 (0, 0)) := by rw [← hw1]; exact heap_alloc_new w _
  have hr : isK L 2 p = ends false (lnL L p.1) p.2 := rfl
  have HCL := Lib.hid (rends_any F a n c L p false w1 (h.below hb1) hp)
  rw [hr]
  obtain ⟨r, hrr⟩ : ∃ r, ends false (lnL L p.1) p.2 = r := ⟨_, rfl⟩
  rw [hrr] at HCL ⊢
  obtain ⟨a0, a1, z0, z1⟩ := row2 g1
  obtain ⟨i, j⟩ := p
  unfold plV at HCL ⊢
  simp only at a0 a1 hw1 HCL ⊢
  have HW1 := Lib.hid hw1
  have HB1 := Lib.hid hb1
  clear h hp g1 hw1 hb1 hr hrr
  go_enter Try.func36, Try.ntmps36
  go_upto_region 1 with fail
  rw [HW1.out]
  go_wp2_with (go_at_call 49; refine HCL.out.mono ?_; rintro e w' ⟨rfl, hb2⟩; have HB2 := Lib.hid hb2; clear hb2)
  go_ret
  exact ⟨rfl, HB1.out.trans (HB2.out.mono HB1.out.size)⟩
theorem ris3 (F : Nat → Prop) (a : Option Addr) (n c : Nat) (L : List (List Int)) (p : Pl) (w : World) (h : RdL F w a n c L) (hp : okP L p) :
    Calls Try.prog 36 #[.slice a n c, plV p, .int .i64 3] w fun e w' => e = .returned (.bool (isK L 3 p)) ∧ Below w.heap.size w w' := by
  obtain ⟨w1, hw1⟩ : ∃ w1, w.alloc (.cells #[.int .i64 (p.1 : Nat), .int .i64 (p.2 : Nat)] 24) = w1 := ⟨_, rfl⟩
  have hb1 : Below w.heap.size w w1 := by rw [← hw1]; exact bal _ _
  have g1 : w1.heap[w.heap.size]? = some (.cells #[.int .i64 (p.1 : Nat), .int .i64 (p.2 : Nat)] 24 (0, 0)) := by rw [← hw1]; exact heap_alloc_new w _
  have hr : isK L 3 p = ends true (lnL L p.1) p.2 := rfl
  have HCL := Lib.hid (rends_any F a n c L p true w1 (h.below hb1) hp)
  rw [hr]
  obtain ⟨r, hrr⟩ : ∃ r, ends true (lnL L p.1) p.2 = r := ⟨_, rfl⟩
  rw [hrr] at HCL ⊢
  obtain ⟨a0, a1, z0, z1⟩ := row2 g1
  obtain ⟨i, j⟩ := p
  unfold plV at HCL ⊢
  simp only at a0 a1 hw1 HCL ⊢
  have HW1 := Lib.hid hw1
  have HB1 := Lib.hid hb1
  clear h hp g1 hw1 hb1 hr hrr
  go_enter Try.func36, Try.ntmps36
  go_upto_region 1 with fail
  rw [HW1.out]
  go_wp2_with (go_at_call 49; refine HCL.out.mono ?_; rintro e w' ⟨rfl, hb2⟩; have HB2 := Lib.hid hb2; clear hb2)
  go_ret
  exact ⟨rfl, HB1.out.trans (HB2.out.mono HB1.out.size)⟩
theorem ris6 (F : Nat → Prop) (a : Option Addr) (n c : Nat) (L : List (List Int)) (p : Pl) (w : World) (h : RdL F w a n c L) (hp : okP L p) :
    Calls Try.prog 36 #[.slice a n c, plV p, .int .i64 6] w fun e w' => e = .returned (.bool (isK L 6 p)) ∧ Below w.heap.size w w' := by
  obtain ⟨w1, hw1⟩ : ∃ w1, w.alloc (.cells #[.int .i64 (p.1 : Nat), .int .i64 (p.2 : Nat)] 24) = w1 := ⟨_, rfl⟩
  have hb1 : Below w.heap.size w w1 := by rw [← hw1]; exact bal _ _
  have g1 : w1.heap[w.heap.size]? = some (.cells #[.int .i64 (p.1 : Nat), .int .i64 (p.2 : Nat)] 24 (0, 0)) := by rw [← hw1]; exact heap_alloc_new w _
  have hr : isK L 6 p = sentB L p.1 p.2 := rfl
  have HCL := Lib.hid (rsent_any F a n c L p w1 (h.below hb1) hp)
  rw [hr]
  obtain ⟨r, hrr⟩ : ∃ r, sentB L p.1 p.2 = r := ⟨_, rfl⟩
  rw [hrr] at HCL ⊢
  obtain ⟨a0, a1, z0, z1⟩ := row2 g1
  obtain ⟨i, j⟩ := p
  unfold plV at HCL ⊢
  simp only at a0 a1 hw1 HCL ⊢
  have HW1 := Lib.hid hw1
  have HB1 := Lib.hid hb1
  clear h hp g1 hw1 hb1 hr hrr
  go_enter Try.func36, Try.ntmps36
  go_upto_region 1 with fail
  rw [HW1.out]
  go_wp2_with (go_at_call 50; refine HCL.out.mono ?_; rintro e w' ⟨rfl, hb2⟩; have HB2 := Lib.hid hb2; clear hb2)
  go_ret
  exact ⟨rfl, HB1.out.trans (HB2.out.mono HB1.out.size)⟩
theorem ris4 (F : Nat → Prop) (a : Option Addr) (n c : Nat) (L : List (List Int)) (p : Pl) (w : World) (h : RdL F w a n c L) (hp : okP L p) :
    Calls Try.prog 36 #[.slice a n c, plV p, .int .i64 4] w fun e w' => e = .returned (.bool (isK L 4 p)) ∧ Below w.heap.size w w' := by
  have hsm := h.small
  have hl := h.len
  obtain ⟨w1, hw1⟩ : ∃ w1, w.alloc (.cells #[.int .i64 (p.1 : Nat), .int .i64 (p.2 : Nat)] 24) = w1 := ⟨_, rfl⟩
  have hb1 : Below w.heap.size w w1 := by rw [← hw1]; exact bal _ _
  have g1 : w1.heap[w.heap.size]? = some (.cells #[.int .i64 (p.1 : Nat), .int .i64 (p.2 : Nat)] 24 (0, 0)) := by rw [← hw1]; exact heap_alloc_new w _
  have hline : ∀ i0, i0 < n → ∃ b off ya yc, a = some ⟨b, off, none⟩ ∧ w1.cell? ⟨b, off + i0, none⟩ = some (.slice ya (lnL L i0).length yc) ∧ (lnL L i0).length ≤ 9223372036854775807 := by
    intro i0 hi0
    obtain ⟨b, off, ra, rc, e1, _, _, e2, e3⟩ := okP.line (p := (i0, 0)) h ⟨by simp only; omega, by simp⟩ hb1
    exact ⟨b, off, ra, rc, e1, e2, e3.small⟩
  have hpn : p.1 < n := by have := hp.1; omega
  obtain ⟨b, off, ra, rc, rfl, e0, hms⟩ := hline _ hpn
  obtain ⟨a0, a1, z0, z1⟩ := row2 g1
  obtain ⟨i, j⟩ := p
  obtain ⟨r, hr⟩ : ∃ r, isK L 4 (i, j) = r := ⟨_, rfl⟩
  rw [hr]
  unfold plV
  simp only at a0 a1 hpn e0 hms hw1 ⊢
  obtain ⟨m, hm⟩ : ∃ m, (lnL L i).length = m := ⟨_, rfl⟩
  rw [hm] at e0 hms
  have HW1 := Lib.hid hw1
  have HB1 := Lib.hid hb1
  have HLN := Lib.hid hline
  clear h hp g1 hw1 hb1 hline
  have hr : (decide (m = 0) && decide (0 < i) && decide (0 < (lnL L (i - 1)).length)) = r := by rw [← hr, ← hm]; rfl
  by_cases h0 : m = 0
  · have q1 : ((m : Int) == 0) = true := by simp [h0]
    have d1 : decide (m = 0) = true := by simp [h0]
    rw [d1, Bool.true_and] at hr
    rcases Nat.eq_zero_or_pos i with hi | hi
    · have hrf : r = false := by rw [← hr, hi]; rfl
      have g3 : ¬ (0 : Int) < (i : Int) := by omega
      subst hrf
      clear hr hi h0 hm d1
      go_enter Try.func36, Try.ntmps36
      go_upto_region 1 with fail
      rw [HW1.out]
      go_wp2_with fail
      go_ret
      exact ⟨ret_bool (by first | rfl | simp | (simp; omega)), HB1.out⟩
    · obtain ⟨i0, hi0⟩ : ∃ i0, i - 1 = i0 := ⟨_, rfl⟩
      obtain ⟨b', off', ya, yc, hbo, e1, hmys⟩ := HLN.out i0 (by omega)
      cases hbo
      rw [hi0] at hr
      obtain ⟨my, hmy⟩ : ∃ my, (lnL L i0).length = my := ⟨_, rfl⟩
      rw [hmy] at hr e1 hmys
      have s1 : (i : Int) - 1 = (i0 : Int) := by omega
      have g3 : (0 : Int) < (i : Int) := by omega
      have hin : i0 < n := by omega
      have hrf : r = decide (0 < my) := by rw [← hr]; simp [hi]
      subst hrf
      clear hr hi0 h0 hm d1 hmy
      go_enter Try.func36, Try.ntmps36
      go_upto_region 1 with fail
      rw [HW1.out]
      go_wp2_with fail
      go_ret
      exact ⟨ret_bool (by first | rfl | simp | (simp; omega)), HB1.out⟩
  · have q1 : ((m : Int) == 0) = false := by simp; omega
    have hrf : r = false := by rw [← hr]; simp [h0]
    subst hrf
    clear hr h0 hm
    go_enter Try.func36, Try.ntmps36
    go_upto_region 1 with fail
    rw [HW1.out]
    go_wp2_with fail
    go_ret
    exact ⟨ret_bool (by first | rfl | simp | (simp; omega)), HB1.out⟩
theorem ris5 (F : Nat → Prop) (a : Option Addr) (n c : Nat) (L : List (List Int)) (p : Pl) (w : World) (h : RdL F w a n c L) (hp : okP L p) :
    Calls Try.prog 36 #[.slice a n c, plV p, .int .i64 5] w fun e w' => e = .returned (.bool (isK L 5 p)) ∧ Below w.heap.size w w' := by
  have hsm := h.small
  have hl := h.len
  obtain ⟨w1, hw1⟩ : ∃ w1, w.alloc (.cells #[.int .i64 (p.1 : Nat), .int .i64 (p.2 : Nat)] 24) = w1 := ⟨_, rfl⟩
  have hb1 : Below w.heap.size w w1 := by rw [← hw1]; exact bal _ _
  have g1 : w1.heap[w.heap.size]? = some (.cells #[.int .i64 (p.1 : Nat), .int .i64 (p.2 : Nat)] 24 (0, 0)) := by rw [← hw1]; exact heap_alloc_new w _
  have hline : ∀ i0, i0 < n → ∃ b off ya yc, a = some ⟨b, off, none⟩ ∧ w1.cell? ⟨b, off + i0, none⟩ = some (.slice ya (lnL L i0).length yc) ∧ (lnL L i0).length ≤ 9223372036854775807 := by
    intro i0 hi0
    obtain ⟨b, off, ra, rc, e1, _, _, e2, e3⟩ := okP.line (p := (i0, 0)) h ⟨by simp only; omega, by simp⟩ hb1
    exact ⟨b, off, ra, rc, e1, e2, e3.small⟩
  have hpn : p.1 < n := by have := hp.1; omega
  obtain ⟨b, off, ra, rc, rfl, e0, hms⟩ := hline _ hpn
  obtain ⟨a0, a1, z0, z1⟩ := row2 g1
  obtain ⟨i, j⟩ := p
  obtain ⟨r, hr⟩ : ∃ r, isK L 5 (i, j) = r := ⟨_, rfl⟩
  rw [hr]
  unfold plV
  simp only at a0 a1 hpn e0 hms hw1 ⊢
  obtain ⟨m, hm⟩ : ∃ m, (lnL L i).length = m := ⟨_, rfl⟩
  rw [hm] at e0 hms
  have HW1 := Lib.hid hw1
  have HB1 := Lib.hid hb1
  have HLN := Lib.hid hline
  clear h hp g1 hw1 hb1 hline
  have hr : (decide (m = 0) && decide (i + 1 < n) && decide (0 < (lnL L (i + 1)).length)) = r := by rw [← hr, ← hm, ← hl]; rfl
  by_cases h0 : m = 0
  · have q1 : ((m : Int) == 0) = true := by simp [h0]
    have d1 : decide (m = 0) = true := by simp [h0]
    rw [d1, Bool.true_and] at hr
    by_cases hi : i + 1 < n
    · obtain ⟨i0, hi0⟩ : ∃ i0, i + 1 = i0 := ⟨_, rfl⟩
      obtain ⟨b', off', ya, yc, hbo, e1, hmys⟩ := HLN.out i0 (by omega)
      cases hbo
      rw [hi0] at hr
      obtain ⟨my, hmy⟩ : ∃ my, (lnL L i0).length = my := ⟨_, rfl⟩
      rw [hmy] at hr e1 hmys
      have s1 : (i : Int) + 1 = (i0 : Int) := by omega
      have g3 : (i : Int) < (n : Int) - 1 := by omega
      have hin : i0 < n := by omega
      have hrf : r = decide (0 < my) := by rw [← hr]; simp [hin]
      subst hrf
      clear hr hi0 h0 hm d1 hmy
      go_enter Try.func36, Try.ntmps36
      go_upto_region 1 with fail
      rw [HW1.out]
      go_wp2_with fail
      go_ret
      exact ⟨ret_bool (by first | rfl | simp | (simp; omega)), HB1.out⟩
    · have hrf : r = false := by rw [← hr]; simp [hi]
      have g3 : ¬ (i : Int) < (n : Int) - 1 := by omega
      subst hrf
      clear hr hi h0 hm d1
      go_enter Try.func36, Try.ntmps36
      go_upto_region 1 with fail
      rw [HW1.out]
      go_wp2_with fail
      go_ret
      exact ⟨ret_bool (by first | rfl | simp | (simp; omega)), HB1.out⟩
  · have q1 : ((m : Int) == 0) = false := by simp; omega
    have hrf : r = false := by rw [← hr]; simp [h0]
    subst hrf
    clear hr h0 hm
    go_enter Try.func36, Try.ntmps36
    go_upto_region 1 with fail
    rw [HW1.out]
    go_wp2_with fail
    go_ret
    exact ⟨ret_bool (by first | rfl | simp | (simp; omega)), HB1.out⟩
theorem ris_any (F : Nat → Prop) (a : Option Addr) (n c : Nat) (L : List (List Int)) (p : Pl) (kd : Int) (w : World) (h : RdL F w a n c L) (hp : okP L p) (hk0 : 0 ≤ kd) (hk6 : kd ≤ 6) :
    Calls Try.prog 36 #[.slice a n c, plV p, .int .i64 kd] w fun e w' => e = .returned (.bool (isK L kd p)) ∧ Below w.heap.size w w' := by
  have h7 : kd = 0 ∨ kd = 1 ∨ kd = 2 ∨ kd = 3 ∨ kd = 4 ∨ kd = 5 ∨ kd = 6 := by omega
  rcases h7 with rfl | rfl | rfl | rfl | rfl | rfl | rfl
  · exact ris0 F a n c L p w h hp
  · exact ris1 F a n c L p w h hp
  · exact ris2 F a n c L p w h hp
  · exact ris3 F a n c L p w h hp
  · exact ris4 F a n c L p w h hp
  · exact ris5 F a n c L p w h hp
  · exact ris6 F a n c L p w h hp
end Go.Proofs.Ytnegijbdgefaoaa.U
