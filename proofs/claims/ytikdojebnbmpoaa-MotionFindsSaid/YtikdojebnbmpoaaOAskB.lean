/-
  More of what a motion is asked with: the column that is wanted, a line's first rune.
-/
import Derived.Test.YtikdojebnbmpoaaOAsk
import Derived.Test.YtikdojebnbmpoaaNAt
namespace Go.Proofs.Ytikdojebnbmpoaa.U
open Go.RowKit
set_option linter.unusedVariables false
set_option linter.unusedSimpArgs false
set_option maxRecDepth 100000

/-- the column that lies in a place's box -/
def colM (w : World) (B : Nat) : Nat := (intOf ((w.cell? ⟨B, 1, none⟩).getD (.bool false))).toNat
theorem colM_at {w : World} {B : Nat} {p : Pl} (h : At w B p) : colM w B = p.2 := by
  obtain ⟨-, a1, -, -⟩ := row2 h
  unfold colM
  rw [a1]
  simp [intOf]
def wantC (want : Int) (q : Nat) : Int := if 0 ≤ want then want else (q : Int)
theorem wanted_yes (F : Nat → Prop) (a : Option Addr) (n c l q : Nat) (k key cnt arg want : Int) (op : Bool) (L : List (List Int)) (v : Int) (ok : Bool) (w : World) (h : RdL F w a n c L) (hv : i64b v) (hc : i64b want) (hw : 0 ≤ want) :
    Calls Try.prog 43 #[askL a n c l q k key cnt arg want op, .int .i64 v, .bool ok] w fun e w' => e = .returned (.tuple #[plV (clipP L v want), .bool ok]) ∧ Below w.heap.size w w' := by
  obtain ⟨⟨p1, p2⟩, hp⟩ : ∃ p, clipP L v want = p := ⟨_, rfl⟩
  have HC : Hid (∀ W, Below w.heap.size w W → Calls Try.prog 13 #[.slice a n c, .agg #[.int .i64 v, .int .i64 want]] W fun e w' => e = .returned (.agg #[.int .i64 (p1 : Nat), .int .i64 (p2 : Nat)]) ∧ Below W.heap.size W w') := by
    intro W hW
    have := wclip_any F a n c L ⟨v, want⟩ W (h.below hW) ⟨hv, hc⟩
    simp only [hp] at this
    exact this
  rw [hp]
  obtain ⟨w1, hw1, hsz, g1, g2, hb1⟩ := two2 w (askO a n c l q k key cnt arg want op) (.cells #[.int .i64 0, .int .i64 0] 24)
  obtain ⟨x0, x1, x2, x3, x4, x5, x6, x7, x8⟩ := row9 g1
  have HW1 := Lib.hid hw1
  have HB1 := Lib.hid hb1
  have G2 := Lib.hid g2
  have s0 : ¬ want < 0 := by omega
  have s1 : decide (want < 0) = false := by simp; omega
  clear g1 g2 hw1 hb1 h hv hc hp
  go_enter Try.func43, Try.ntmps43
  go_upto_region 1 with fail
  rw [HW1.out]
  go_wp2_with (go_at_call 13; refine (HC.out _ HB1.out).mono ?_; rintro e w2 ⟨rfl, hb2⟩; obtain ⟨a0, a1, z0, z1⟩ := row2 ((hb2.block _ (Array.getElem?_eq_some_iff.1 G2.out).1).trans G2.out))
  refine bodyPost_ret (v := .tuple #[.agg #[.int .i64 (p1 : Nat), .int .i64 (p2 : Nat)], .bool ok]) ?_ rfl ⟨rfl, ?_⟩
  · rw [results_ct rfl]
    go_simp
  · have h2 := btr HB1.out hb2
    (repeat' (first | exact h2 | omega | refine setCell_below ?_ _ _ _ ?_))
theorem wanted_no (F : Nat → Prop) (a : Option Addr) (n c l q : Nat) (k key cnt arg want : Int) (op : Bool) (L : List (List Int)) (v : Int) (ok : Bool) (w : World) (h : RdL F w a n c L) (hv : i64b v) (hc : i64b (q : Int)) (hw : want < 0) :
    Calls Try.prog 43 #[askL a n c l q k key cnt arg want op, .int .i64 v, .bool ok] w fun e w' => e = .returned (.tuple #[plV (clipP L v (q : Int)), .bool ok]) ∧ Below w.heap.size w w' := by
  obtain ⟨⟨p1, p2⟩, hp⟩ : ∃ p, clipP L v (q : Int) = p := ⟨_, rfl⟩
  have HC : Hid (∀ W, Below w.heap.size w W → Calls Try.prog 13 #[.slice a n c, .agg #[.int .i64 v, .int .i64 (q : Int)]] W fun e w' => e = .returned (.agg #[.int .i64 (p1 : Nat), .int .i64 (p2 : Nat)]) ∧ Below W.heap.size W w') := by
    intro W hW
    have := wclip_any F a n c L ⟨v, (q : Int)⟩ W (h.below hW) ⟨hv, hc⟩
    simp only [hp] at this
    exact this
  rw [hp]
  obtain ⟨w1, hw1, hsz, g1, g2, hb1⟩ := two2 w (askO a n c l q k key cnt arg want op) (.cells #[.int .i64 0, .int .i64 0] 24)
  obtain ⟨x0, x1, x2, x3, x4, x5, x6, x7, x8⟩ := row9 g1
  have HW1 := Lib.hid hw1
  have HB1 := Lib.hid hb1
  have G2 := Lib.hid g2
  have s1 : decide (want < 0) = true := by simp; omega
  clear g1 g2 hw1 hb1 h hv hc hp
  go_enter Try.func43, Try.ntmps43
  go_upto_region 1 with fail
  rw [HW1.out]
  go_wp2_with (go_at_call 13; refine (HC.out _ HB1.out).mono ?_; rintro e w2 ⟨rfl, hb2⟩; obtain ⟨a0, a1, z0, z1⟩ := row2 ((hb2.block _ (Array.getElem?_eq_some_iff.1 G2.out).1).trans G2.out))
  refine bodyPost_ret (v := .tuple #[.agg #[.int .i64 (p1 : Nat), .int .i64 (p2 : Nat)], .bool ok]) ?_ rfl ⟨rfl, ?_⟩
  · rw [results_ct rfl]
    go_simp
  · have h2 := btr HB1.out hb2
    (repeat' (first | exact h2 | omega | refine setCell_below ?_ _ _ _ ?_))
theorem wanted_any (F : Nat → Prop) (a : Option Addr) (n c l q : Nat) (k key cnt arg want : Int) (op : Bool) (L : List (List Int)) (v : Int) (ok : Bool) (w : World) (h : RdL F w a n c L) (hv : i64b v) (hq : (q : Int) ≤ 9223372036854775807) (hw : i64b want) :
    Calls Try.prog 43 #[askL a n c l q k key cnt arg want op, .int .i64 v, .bool ok] w fun e w' => e = .returned (.tuple #[plV (clipP L v (wantC want q)), .bool ok]) ∧ Below w.heap.size w w' := by
  unfold wantC
  by_cases h0 : 0 ≤ want
  · rw [if_pos h0]
    exact wanted_yes F a n c l q k key cnt arg want op L v ok w h hv hw h0
  · rw [if_neg h0]
    exact wanted_no F a n c l q k key cnt arg want op L v ok w h hv ⟨by omega, hq⟩ (by omega)

theorem cls_zero (c : Int) : (cls true c = 0) = (cls false c = 0) := by
  unfold cls
  by_cases h : c = 32 ∨ c = 9
  · rw [if_pos h, if_pos h]
  · rw [if_neg h, if_neg h]
    simp
    split <;> decide
/-- the first rune of a line from a column on that is not blank -/
theorem firstR_skip {x : List Int} {j : Nat} (h : ∀ i, i < j → cls false (x.getD i 0) = 0) (hj : j < x.length) (hn : cls false (x.getD j 0) ≠ 0) : firstR x = j := by
  unfold firstR
  have : x.findIdx? (fun c => cls false c != 0) = some j := by
    rw [List.findIdx?_eq_some_iff_getElem]
    refine ⟨hj, ?_, fun i hi => ?_⟩
    · rw [List.getD_eq_getElem?_getD, List.getElem?_eq_getElem hj] at hn
      simpa using hn
    · have := h i hi
      rw [List.getD_eq_getElem?_getD, List.getElem?_eq_getElem (by omega)] at this
      simpa using this
  rw [this]; rfl
theorem firstR_end {x : List Int} {j : Nat} (h : ∀ i, i < j → cls false (x.getD i 0) = 0) (hj : x.length ≤ j + 1) (hl : j ≤ x.length - 1) : firstR x = x.length - 1 := by
  by_cases hx : x = []
  · subst hx; rfl
  · have h0 : 0 < x.length := List.length_pos_iff.2 hx
    by_cases hn : cls false (x.getD j 0) = 0
    · unfold firstR
      have : x.findIdx? (fun c => cls false c != 0) = none := by
        rw [List.findIdx?_eq_none_iff]
        intro r hr
        obtain ⟨i, hi, rfl⟩ := List.getElem_of_mem hr
        have h1 : cls false (x.getD i 0) = 0 := by
          by_cases e : i < j
          · exact h i e
          · rw [show i = j by omega]; exact hn
        rw [List.getD_eq_getElem?_getD, List.getElem?_eq_getElem hi] at h1
        simpa using h1
      rw [this]; rfl
    · rw [firstR_skip h (by omega) hn]; omega
set_option maxHeartbeats 1000000 in
theorem first_any (F : Nat → Prop) (a : Option Addr) (n c l q : Nat) (k key cnt arg want : Int) (op : Bool) (L : List (List Int)) (t : Nat) (x : List Int) (ok : Bool) (w : World) (h : RdL F w a n c L) (hx : L[t]? = some x) :
    Calls Try.prog 46 #[askL a n c l q k key cnt arg want op, .int .i64 (t : Nat), .bool ok] w fun e w' => e = .returned (.tuple #[plV (t, firstR x), .bool ok]) ∧ Below w.heap.size w w' := by
  have hln : t < n := by rw [← h.len]; exact (List.getElem?_eq_some_iff.1 hx).1
  have hsm := h.small
  obtain ⟨b, off, ra, rc, rfl, hbl, -, e0, hrd, -, -⟩ := h.get (Below.refl _ w) hx
  have hxs := hrd.small
  obtain ⟨m, hm⟩ : ∃ m, x.length = m := ⟨_, rfl⟩
  rw [hm] at e0 hxs hrd
  obtain ⟨w1, hw1, hsz, g1, g2, hb1⟩ := two2 w (askO (some ⟨b, off, none⟩) n c l q k key cnt arg want op) (.cells #[.int .i64 0, .int .i64 0] 24)
  have HW1 := Lib.hid hw1
  have HB1 := Lib.hid hb1
  have G1 := Lib.hid g1
  have G2 := Lib.hid g2
  have HRD := Lib.hid hrd
  have HE := Lib.hid e0
  obtain ⟨rs, hrs⟩ : ∃ rs, firstR x = rs := ⟨_, rfl⟩
  rw [hrs]
  have HRS := Lib.hid hrs
  have HM := Lib.hid hm
  clear g1 g2 hw1 hb1 h hx e0 hrd hrs hm
  go_enter Try.func46, Try.ntmps46
  go_upto_region 1 with fail
  rw [HW1.out]
  go_upto_region 2 with fail
  obtain ⟨w3, hw3⟩ : ∃ w3, w1.alloc (.cells #[.int .i64 (t : Nat), .int .i64 0] 24) = w3 := ⟨_, rfl⟩
  rw [hw3]
  obtain ⟨B, hB⟩ : ∃ B, w.heap.size + 2 = B := ⟨_, rfl⟩
  have hat : At w3 B (t, 0) := by
    rw [← hw3, ← hB, ← hsz]; exact heap_alloc_new w1 _
  have hlt3 : Below w1.heap.size w1 w3 := by rw [← hw3]; exact bal _ _
  have q1 := (hlt3.block _ (Array.getElem?_eq_some_iff.1 G1.out).1).trans G1.out
  have q2 := (hlt3.block _ (Array.getElem?_eq_some_iff.1 G2.out).1).trans G2.out
  have HB3 := Lib.hid (btr HB1.out hlt3)
  have HBS : Hid (B = w.heap.size + 2) := hB.symm
  have nB0 : ¬ B = w.heap.size := by omega
  have nB1 : ¬ B = w.heap.size + 1 := by omega
  rw [hB]
  have HAT := Lib.hid hat
  have Q1 := Lib.hid q1
  have Q2 := Lib.hid q2
  clear hB hw3 hat hlt3 q1 q2 hsz HW1 HB1 G1 G2
  go_loopw [33] (fun _ wr => ∃ j : Nat, j ≤ m - 1 ∧ Hid (At wr B (t, j)) ∧ Hid (∀ i, i < j → cls false (x.getD i 0) = 0) ∧ Hid (Below w.heap.size w wr) ∧ Hid (wr.heap[w.heap.size]? = some (askO (some ⟨b, off, none⟩) n c l q k key cnt arg want op)) ∧ Hid (At wr (w.heap.size + 1) (0, 0))) (fun _ wr => m - colM wr B)
  case atStart => exact ⟨0, Nat.zero_le _, HAT.out, (fun i hi => absurd hi (by omega)), HB3.out, Q1.out, Q2.out⟩
  case round =>
    clear HAT HB3 Q1 Q2
    obtain ⟨j, hj, HA, HZ, HB, H1, H2⟩ := hrel
    obtain ⟨x0, x1, x2, x3, x4, x5, x6, x7, x8⟩ := row9 H1.out
    obtain ⟨a0, a1, z0, z1⟩ := row2 HA.out
    obtain ⟨r0, r1, y0, y1⟩ := row2 H2.out
    simp only at a0 a1
    have e1 : wr.cell? ⟨b, off + t, none⟩ = some (.slice ra m rc) := (HB.out.cell (p := ⟨b, off + t, none⟩) hbl).trans HE.out
    have u0 : ¬ (t : Int) < 0 := by omega
    have u1 : decide ((t : Int) < 0) = false := by simp
    have u2 : IntKind.i64.wrap ((m : Int) - 1) = (m : Int) - 1 := by rw [IntKind.wrap_i64]; omega
    by_cases h0 : j + 1 < m
    · obtain ⟨rb, ro, rfl, hrb, c0⟩ := HRD.out.at_ (i := j) (by omega)
      have c1 : wr.cell? ⟨rb, ro + j, none⟩ = some (.int .i32 (x.getD j 0)) := (HB.out.cell (p := ⟨rb, ro + j, none⟩) hrb).trans c0
      obtain ⟨rr, hrr⟩ : ∃ r, x.getD j 0 = r := ⟨_, rfl⟩
      rw [hrr] at c1
      obtain ⟨kk, hkk⟩ : ∃ k, cls true rr = k := ⟨_, rfl⟩
      have HKK := Lib.hid hkk
      have HCL : Hid (∀ W, Calls Try.prog 62 #[.int .i32 rr, .bool true] W fun e w' => e = .returned (.int .i64 kk) ∧ W = w') := by
        intro W; rw [← HKK.out]; exact wclass_eq rr true W
      have HRR := Lib.hid hrr
      have d0 : (j : Int) < (m : Int) - 1 := by omega
      have d1 : decide ((j : Int) < (m : Int) - 1) = true := by simp; omega
      have d2 : j < m := by omega
      have d3 : ¬ (j : Int) < 0 := by omega
      have d4 : decide ((j : Int) < 0) = false := by simp
      have HJ0 : Hid (j + 1 < m) := h0
      clear hrr hkk c0 h0
      by_cases hk0 : kk = 0
      · have k0 : (kk == 0) = true := by simp [hk0]
        have HNZ : Hid (∀ i, i < j + 1 → cls false (x.getD i 0) = 0) := by
          intro i hi
          by_cases e : i < j
          · exact HZ.out i e
          · rw [show i = j by omega, HRR.out, ← cls_zero, HKK.out, hk0]
        clear hk0
        go_wp2_with fail
        go_quiet (first | (go_at_call 62; refine Calls.quiet_of_same ((HCL.out _).mono fun e w' h => ⟨h.1, h.2.symm⟩)))
        go_wp2_with fail
        go_roundw
        case rel =>
          refine ⟨j + 1, by have := HJ0.out; omega, ?_, HNZ.out, setCell_below (bdrewN HB.out _) _ _ _ (by have := HBS.out; omega), ?_, ?_⟩
          · exact heap_set HA.out 1 _
          · exact (Below.heap_setCell _ _ _ _ (fun e => nB0 e.symm)).trans H1.out
          · exact H2.out.keep (Below.heap_setCell _ _ _ _ (fun e => nB1 e.symm))
        case measure =>
          rw [colM_at HA.out, colM_at (p := (t, j + 1)) (by exact heap_set HA.out 1 _)]
          have := HJ0.out
          show m - (j + 1) < m - j
          omega
      · have k0 : (kk == 0) = false := by simp [hk0]
        have hrs : rs = j := by
          rw [← HRS.out]
          exact firstR_skip HZ.out (by rw [HM.out]; exact d2) (by rw [HRR.out]; intro e; rw [← cls_zero, HKK.out] at e; exact hk0 e)
        have HRJ := Lib.hid hrs
        clear hk0 hrs
        go_wp2_with fail
        go_quiet (first | (go_at_call 62; refine Calls.quiet_of_same ((HCL.out _).mono fun e w' h => ⟨h.1, h.2.symm⟩)))
        go_wp2_with fail
        refine bodyPost_ret (v := .tuple #[.agg #[.int .i64 (t : Nat), .int .i64 (j : Nat)], .bool ok]) ?_ rfl ⟨by rw [HRJ.out]; rfl, ?_⟩
        · rw [results_ct rfl]
          go_simp
        · have h2 := fun n => bdrewN HB.out n
          (repeat' (first | exact h2 _ | omega | refine setCell_below ?_ _ _ _ ?_))
    · have d0 : ¬ (j : Int) < (m : Int) - 1 := by omega
      have d1 : decide ((j : Int) < (m : Int) - 1) = false := by simp; omega
      have HRJ : Hid (rs = j) := by
        show _ = _
        rw [← HRS.out, firstR_end HZ.out (by rw [HM.out]; omega) (by rw [HM.out]; omega), HM.out]; omega
      clear h0
      go_wp2_with fail
      go_quiet (fail)
      go_wp2_with fail
      refine bodyPost_ret (v := .tuple #[.agg #[.int .i64 (t : Nat), .int .i64 (j : Nat)], .bool ok]) ?_ rfl ⟨by rw [HRJ.out]; rfl, ?_⟩
      · rw [results_ct rfl]
        go_simp
      · have h2 := fun n => bdrewN HB.out n
        (repeat' (first | exact h2 _ | omega | refine setCell_below ?_ _ _ _ ?_))
end Go.Proofs.Ytikdojebnbmpoaa.U
