/-
  The program's wordBegins, wordEnds. (MADE by wip/tools/gen_kinds.py.)
-/
import Derived.Test.YtikdojebnbmpoaaNEdge
import Derived.Deep.QuietTactic
import Derived.BigQuiet
namespace Go.Proofs.Ytikdojebnbmpoaa.U
open Go.RowKit
set_option linter.unusedVariables false
set_option linter.unusedSimpArgs false
set_option maxRecDepth 100000
set_option maxHeartbeats 1000000 in
theorem wbegins_any (F : Nat → Prop) (a : Option Addr) (n c : Nat) (L : List (List Int)) (p : Pl) (big : Bool) (w : World) (h : RdL F w a n c L) (hp : okP L p) :
    Calls Try.prog 66 #[.slice a n c, plV p, .bool big] w fun e w' => e = .returned (.bool (begins big (lnL L p.1) p.2)) ∧ Below w.heap.size w w' := by
  have hsm := h.small
  have hl := h.len
  obtain ⟨w1, hw1⟩ : ∃ w1, w.alloc (.cells #[.int .i64 (p.1 : Nat), .int .i64 (p.2 : Nat)] 24) = w1 := ⟨_, rfl⟩
  have hb1 : Below w.heap.size w w1 := by rw [← hw1]; exact bal _ _
  have g1 : w1.heap[w.heap.size]? = some (.cells #[.int .i64 (p.1 : Nat), .int .i64 (p.2 : Nat)] 24 (0, 0)) := by rw [← hw1]; exact heap_alloc_new w _
  have HE := Lib.hid (fun W (hW : Below w.heap.size w W) => wempty_eq F a n c L p.1 W (h.below hW) (by have := hp.1; omega))
  obtain ⟨b, off, ra, rc, rfl, hpn, hbl, e0, hrd⟩ := hp.line h hb1
  obtain ⟨a0, a1, z0, z1⟩ := row2 g1
  have hok := hp.2
  obtain ⟨i, j⟩ := p
  simp only at a0 a1 hpn hok e0 hrd hw1 HE ⊢
  show Calls Try.prog 66 #[.slice (some ⟨b, off, none⟩) n c, .agg #[.int .i64 (i : Nat), .int .i64 (j : Nat)], .bool big] w _
  obtain ⟨x, hx⟩ : ∃ x, lnL L i = x := ⟨_, rfl⟩
  rw [hx] at e0 hrd hok HE ⊢
  obtain ⟨m, hm⟩ : ∃ m, x.length = m := ⟨_, rfl⟩
  rw [hm] at e0 hrd hok HE
  have hms := hrd.small
  have HW1 := Lib.hid hw1
  have HB1 := Lib.hid hb1
  by_cases h0 : m = 0
  · have hr : begins big x j = true := by rw [begins, if_pos (List.eq_nil_of_length_eq_zero (by omega))]
    have hd : decide (m = 0) = true := by simp [h0]
    rw [hr]
    rw [hd] at HE
    clear hr hm hrd hok h hp hx g1 hw1 hb1 hbl hd h0 hl
    go_enter Try.func66, Try.ntmps66
    go_upto_region 1 with fail
    rw [HW1.out]
    go_quiet (first | (go_at_call 73; refine Calls.quiet_of_same ((HE.out _ (bdrewN HB1.out _)).mono fun e w' h => ⟨h.1, h.2.symm⟩)))
    go_wp2
    go_ret
    exact ⟨rfl, bdrewN HB1.out _⟩
  · have hd : decide (m = 0) = false := by simp [h0]
    have hxn : ¬ x = [] := by rintro rfl; simp at hm; omega
    rw [hd] at HE
    have HG := Lib.hid (fun W (hW : Below w1.heap.size w1 W) => wedgeB ra m rc x j big W (hrd.below hW) (by omega))
    have hr : begins big x j = ((cls big (x.getD j 0) != 0) && (decide (j = 0) || (cls big (x.getD (j - 1) 0) != cls big (x.getD j 0)))) := by simp only [begins, if_neg hxn]
    rw [← hr] at HG
    obtain ⟨r, hr1⟩ : ∃ r, begins big x j = r := ⟨_, rfl⟩
    rw [hr1] at HG ⊢
    clear hr hr1 hm hrd hok h hp hx g1 hw1 hb1 hbl hd h0 hl hxn
    go_enter Try.func66, Try.ntmps66
    go_upto_region 1 with fail
    rw [HW1.out]
    go_quiet (first | (go_at_call 73; refine Calls.quiet_of_same ((HE.out _ (bdrewN HB1.out _)).mono fun e w' h => ⟨h.1, h.2.symm⟩)) | (go_at_call 80; refine Calls.quiet_of_same ((HG.out _ (bdrewN (Below.refl _ _) _)).mono fun e w' h => ⟨h.1, h.2.symm⟩)))
    go_wp2
    go_ret
    exact ⟨rfl, bdrewN HB1.out _⟩
set_option maxHeartbeats 1000000 in
theorem wends_any (F : Nat → Prop) (a : Option Addr) (n c : Nat) (L : List (List Int)) (p : Pl) (big : Bool) (w : World) (h : RdL F w a n c L) (hp : okP L p) :
    Calls Try.prog 70 #[.slice a n c, plV p, .bool big] w fun e w' => e = .returned (.bool (ends big (lnL L p.1) p.2)) ∧ Below w.heap.size w w' := by
  have hsm := h.small
  have hl := h.len
  obtain ⟨w1, hw1⟩ : ∃ w1, w.alloc (.cells #[.int .i64 (p.1 : Nat), .int .i64 (p.2 : Nat)] 24) = w1 := ⟨_, rfl⟩
  have hb1 : Below w.heap.size w w1 := by rw [← hw1]; exact bal _ _
  have g1 : w1.heap[w.heap.size]? = some (.cells #[.int .i64 (p.1 : Nat), .int .i64 (p.2 : Nat)] 24 (0, 0)) := by rw [← hw1]; exact heap_alloc_new w _
  have HE := Lib.hid (fun W (hW : Below w.heap.size w W) => wempty_eq F a n c L p.1 W (h.below hW) (by have := hp.1; omega))
  obtain ⟨b, off, ra, rc, rfl, hpn, hbl, e0, hrd⟩ := hp.line h hb1
  obtain ⟨a0, a1, z0, z1⟩ := row2 g1
  have hok := hp.2
  obtain ⟨i, j⟩ := p
  simp only at a0 a1 hpn hok e0 hrd hw1 HE ⊢
  show Calls Try.prog 70 #[.slice (some ⟨b, off, none⟩) n c, .agg #[.int .i64 (i : Nat), .int .i64 (j : Nat)], .bool big] w _
  obtain ⟨x, hx⟩ : ∃ x, lnL L i = x := ⟨_, rfl⟩
  rw [hx] at e0 hrd hok HE ⊢
  obtain ⟨m, hm⟩ : ∃ m, x.length = m := ⟨_, rfl⟩
  rw [hm] at e0 hrd hok HE
  have hms := hrd.small
  have HW1 := Lib.hid hw1
  have HB1 := Lib.hid hb1
  by_cases h0 : m = 0
  · have hr : ends big x j = false := by rw [ends, if_pos (List.eq_nil_of_length_eq_zero (by omega))]
    have hd : decide (m = 0) = true := by simp [h0]
    rw [hr]
    rw [hd] at HE
    clear hr hm hrd hok h hp hx g1 hw1 hb1 hbl hd h0 hl
    go_enter Try.func70, Try.ntmps70
    go_upto_region 1 with fail
    rw [HW1.out]
    go_quiet (first | (go_at_call 73; refine Calls.quiet_of_same ((HE.out _ (bdrewN HB1.out _)).mono fun e w' h => ⟨h.1, h.2.symm⟩)))
    go_wp2
    go_ret
    exact ⟨rfl, bdrewN HB1.out _⟩
  · have hd : decide (m = 0) = false := by simp [h0]
    have hxn : ¬ x = [] := by rintro rfl; simp at hm; omega
    rw [hd] at HE
    have HG := Lib.hid (fun W (hW : Below w1.heap.size w1 W) => wedgeE ra m rc x j big W (hrd.below hW) (by omega))
    have hr : ends big x j = ((cls big (x.getD j 0) != 0) && (decide (j + 1 = m) || (cls big (x.getD (j + 1) 0) != cls big (x.getD j 0)))) := by simp only [ends, if_neg hxn, hm]
    rw [← hr] at HG
    obtain ⟨r, hr1⟩ : ∃ r, ends big x j = r := ⟨_, rfl⟩
    rw [hr1] at HG ⊢
    clear hr hr1 hm hrd hok h hp hx g1 hw1 hb1 hbl hd h0 hl hxn
    go_enter Try.func70, Try.ntmps70
    go_upto_region 1 with fail
    rw [HW1.out]
    go_quiet (first | (go_at_call 73; refine Calls.quiet_of_same ((HE.out _ (bdrewN HB1.out _)).mono fun e w' h => ⟨h.1, h.2.symm⟩)) | (go_at_call 80; refine Calls.quiet_of_same ((HG.out _ (bdrewN (Below.refl _ _) _)).mono fun e w' h => ⟨h.1, h.2.symm⟩)))
    go_wp2
    go_ret
    exact ⟨rfl, bdrewN HB1.out _⟩
end Go.Proofs.Ytikdojebnbmpoaa.U
