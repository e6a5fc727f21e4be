/-
  The program's quoted: the first pair of quotes that does not end ahead of p. (MADE by wip/tools/gen_bqut.py.)
-/
import Derived.Test.YthlhgkeodaifcaaDoorBWrd
import Derived.Test.YthlhgkeodaifcaaDoorBQuo
namespace Go.Proofs.YthlhgkeodaifcaaDoor.U
open Go.RowKit
set_option linter.unusedVariables false
set_option linter.unusedSimpArgs false
set_option maxRecDepth 100000

theorem ahead_same (l i k : Nat) : aheadP (l, i) (l, k) = decide (i < k) := by
  rw [Bool.eq_iff_iff, aheadP_iff, decide_eq_true_eq]
  constructor
  · rintro (h | ⟨-, h⟩)
    · exact absurd h (Nat.lt_irrefl _)
    · exact h
  · intro h
    exact .inr ⟨rfl, h⟩
/-- between, of two places of a line -/
theorem between_line (F : Nat → Prop) (a : Option Addr) (n c l q : Nat) (ar : Bool) (L : List (List Int)) (k i : Nat) (w : World) (h : RdL F w a n c L) (hl : l < n) (hk : k < i) (hi : i < (lnL L l).length) :
    Calls Tryd.prog 40 #[askL a n c l q ar, .agg #[.int .i64 (l : Nat), .int .i64 (k : Nat)], .agg #[.int .i64 (l : Nat), .int .i64 (i : Nat)]] w
      (RgE ((if ar = true then some (k, i) else if k + 1 < i then some (k + 1, i - 1) else none : Option (Nat × Nat)).map fun r => ((l, r.1), (l, r.2), 0)) w) := by
  cases ar with
  | true =>
    refine (between_around a n c l q l k l i w).mono ?_
    rintro e w' ⟨rfl, hb⟩
    refine ⟨_, _, _, _, _, _, rfl, ?_, hb⟩
    have e1 : aheadP (l, i) (l, k) = false := by rw [ahead_same]; simp; omega
    rw [e1]
    exact ⟨rfl, rfl, rfl, rfl, rfl, rfl⟩
  | false =>
    refine (between_inner F a n c l q L l k l i w h hl (by omega) hl (by omega)).mono ?_
    rintro e w' ⟨rfl, hb⟩
    refine ⟨_, _, _, _, _, _, rfl, ?_, hb⟩
    have e1 : behPl L (l, k) = (l, k + 1) := by unfold behPl; simp only; rw [if_neg (by omega)]
    have e2 : ahePl L (l, i) = (l, i - 1) := by unfold ahePl; simp only; rw [if_neg (by omega)]
    rw [e1, e2, ahead_same]
    by_cases hb2 : k + 1 < i
    · have e3 : decide (i - 1 < k + 1) = false := by simp; omega
      rw [e3]
      simp only [Bool.false_eq_true, if_false, if_pos hb2]
      exact ⟨rfl, rfl, rfl, rfl, rfl, rfl⟩
    · have e3 : decide (i - 1 < k + 1) = true := by simp; omega
      rw [e3]
      simp only [Bool.false_eq_true, if_false, if_neg hb2]
      exact rfl
/-- what lies in quoted's boxes: what it is asked with, the result, both columns -/
def QuS (w : World) (A : Obj) (b0 b1 : Int) (W : World) : Prop := Below w.heap.size w W ∧ W.heap[w.heap.size]? = some A ∧ W.heap[w.heap.size + 1]? = some (.cells #[.int .i64 0, .int .i64 0, .int .i64 0, .int .i64 0, .int .i64 0] 41 (0, 0)) ∧ W.heap[w.heap.size + 1 + 1]? = some (.cells #[.int .i64 b0, .int .i64 b1] 74 (0, 0))
theorem QuS.below {w W W2 : World} {A : Obj} {b0 b1 : Int} (h : QuS w A b0 b1 W) (hb : Below W.heap.size W W2) : QuS w A b0 b1 W2 := by
  obtain ⟨h1, h2, h3, h4⟩ := h
  exact ⟨btr h1 hb, keepO h2 hb, keepO h3 hb, keepO h4 hb⟩
theorem QuS.set0 {w W : World} {A : Obj} {b0 b1 : Int} (h : QuS w A b0 b1 W) (v : Int) : QuS w A v b1 (W.setCell ⟨w.heap.size + 1 + 1, 0, none⟩ (.int .i64 v)) := by
  obtain ⟨h1, h2, h3, h4⟩ := h
  have k1 : ¬ w.heap.size = w.heap.size + 1 + 1 := by omega
  have k2 : ¬ w.heap.size + 1 = w.heap.size + 1 + 1 := by omega
  exact ⟨setCell_below h1 _ _ _ (by omega), (Below.heap_setCell _ _ _ _ k1).trans h2, (Below.heap_setCell _ _ _ _ k2).trans h3, heap_set h4 0 _⟩
theorem QuS.set1 {w W : World} {A : Obj} {b0 b1 : Int} (h : QuS w A b0 b1 W) (v : Int) : QuS w A b0 v (W.setCell ⟨w.heap.size + 1 + 1, 1, none⟩ (.int .i64 v)) := by
  obtain ⟨h1, h2, h3, h4⟩ := h
  have k1 : ¬ w.heap.size = w.heap.size + 1 + 1 := by omega
  have k2 : ¬ w.heap.size + 1 = w.heap.size + 1 + 1 := by omega
  exact ⟨setCell_below h1 _ _ _ (by omega), (Below.heap_setCell _ _ _ _ k1).trans h2, (Below.heap_setCell _ _ _ _ k2).trans h3, heap_set h4 1 _⟩
/-- of them, all but the result -/
def QuQ (w : World) (A : Obj) (b0 b1 : Int) (W : World) : Prop := Below w.heap.size w W ∧ W.heap[w.heap.size]? = some A ∧ W.heap[w.heap.size + 1 + 1]? = some (.cells #[.int .i64 b0, .int .i64 b1] 74 (0, 0))
theorem QuS.q {w W : World} {A : Obj} {b0 b1 : Int} (h : QuS w A b0 b1 W) : QuQ w A b0 b1 W := ⟨h.1, h.2.1, h.2.2.2⟩
theorem QuQ.below {w W W2 : World} {A : Obj} {b0 b1 : Int} (h : QuQ w A b0 b1 W) (hb : Below W.heap.size W W2) : QuQ w A b0 b1 W2 := by
  obtain ⟨h1, h2, h4⟩ := h
  exact ⟨btr h1 hb, keepO h2 hb, keepO h4 hb⟩
theorem QuQ.drew {w W : World} {A : Obj} {b0 b1 : Int} (h : QuQ w A b0 b1 W) : QuQ w A b0 b1 W.drew := h.below ((Below.refl _ W).drew)
theorem QuQ.put {w W : World} {A : Obj} {b0 b1 : Int} (h : QuQ w A b0 b1 W) (i : Nat) (v : Value) : QuQ w A b0 b1 (W.setCell ⟨w.heap.size + 1, i, none⟩ v) := by
  obtain ⟨h1, h2, h4⟩ := h
  have k1 : ¬ w.heap.size = w.heap.size + 1 := by omega
  have k2 : ¬ w.heap.size + 1 + 1 = w.heap.size + 1 := by omega
  exact ⟨setCell_below h1 _ _ _ (by omega), (Below.heap_setCell _ _ _ _ k1).trans h2, (Below.heap_setCell _ _ _ _ k2).trans h4⟩
theorem QuQ.cells {w W : World} {a : Option Addr} {n c l q : Nat} {ar : Bool} {b0 b1 : Int} (h : QuQ w (askO a n c l q ar) b0 b1 W) : W.cell? ⟨w.heap.size, 0, none⟩ = some (.slice a n c) ∧ W.cell? ⟨w.heap.size, 1, none⟩ = some (.int .i64 (l : Nat)) ∧ W.cell? ⟨w.heap.size, 2, none⟩ = some (.int .i64 (q : Nat)) ∧ W.cell? ⟨w.heap.size, 3, none⟩ = some (.bool ar) ∧ W.cell? ⟨w.heap.size + 1 + 1, 0, none⟩ = some (.int .i64 b0) ∧ W.cell? ⟨w.heap.size + 1 + 1, 1, none⟩ = some (.int .i64 b1) := by
  obtain ⟨h1, h2, h3⟩ := h
  obtain ⟨a0, a1, a2, a3⟩ := row4 h2
  obtain ⟨c0, c1, -, -⟩ := row2 h3
  exact ⟨a0, a1, a2, a3, c0, c1⟩
set_option maxHeartbeats 4000000 in
theorem aquoted_any (F : Nat → Prop) (a : Option Addr) (n c l q : Nat) (ar : Bool) (L : List (List Int)) (key : Int) (w : World) (h : RdL F w a n c L) (hp : okP L (l, q)) :
    Calls Tryd.prog 30 #[askL a n c l q ar, .int .i32 key] w (RgE ((quotesP (lnL L l) q key ar).map fun r => ((l, r.1), (l, r.2), 0)) w) := by
  have hl := h.len
  have hsm := h.small
  obtain ⟨b, off, ra, rc, rfl, hln, hbl, l0, hrd⟩ := okP.line (p := (l, q)) h hp (Below.refl _ w)
  simp only at l0 hrd hln
  have hms := hrd.small
  have hq := hp.2
  simp only at hq
  have HBT : Hid (∀ (k i : Nat) (W : World), Below w.heap.size w W → k < i → i < (lnL L l).length → Calls Tryd.prog 40 #[askL (some ⟨b, off, none⟩) n c l q ar, .agg #[.int .i64 (l : Nat), .int .i64 (k : Nat)], .agg #[.int .i64 (l : Nat), .int .i64 (i : Nat)]] W
      (RgE ((if ar = true then some (k, i) else if k + 1 < i then some (k + 1, i - 1) else none : Option (Nat × Nat)).map fun r => ((l, r.1), (l, r.2), 0)) W)) := fun k i W hW hk hi => between_line F _ n c l q ar L k i W (h.below hW) hln hk hi
  obtain ⟨x, hx⟩ : ∃ x, lnL L l = x := ⟨_, rfl⟩
  rw [hx] at l0 hrd hms hq HBT ⊢
  obtain ⟨m, hm⟩ : ∃ m, x.length = m := ⟨_, rfl⟩
  rw [hm] at l0 hrd hms hq HBT
  obtain ⟨res, hres⟩ : ∃ r, quoP q (qfilt x key 0) = r := ⟨_, rfl⟩
  obtain ⟨R, hR⟩ : ∃ R, ((quotesP x q key ar).map fun r => (((l, r.1) : Pl), ((l, r.2) : Pl), (0 : Int))) = R := ⟨_, rfl⟩
  rw [hR]
  have HR0 : Hid (res = none → R = none) := by
    intro e
    rw [← hR]
    unfold quotesP
    rw [← qfilt_all, hres, e]
    rfl
  have HR1 : Hid (∀ k i, res = some (k, i) → R = ((if ar = true then some (k, i) else if k + 1 < i then some (k + 1, i - 1) else none : Option (Nat × Nat)).map fun r => ((l, r.1), (l, r.2), 0))) := by
    intro k i e
    rw [← hR]
    unfold quotesP
    rw [← qfilt_all, hres, e]
  obtain ⟨w1, hw1, hsz, g1, g2, hb1⟩ := two2 w (askO (some ⟨b, off, none⟩) n c l q ar) (.cells #[.int .i64 0, .int .i64 0, .int .i64 0, .int .i64 0, .int .i64 0] 41)
  obtain ⟨w2, hw2, hsz2, g3, hb2⟩ := one1 w1 (.cells #[.int .i64 0, .int .i64 0] 74)
  rw [hsz] at g3
  obtain ⟨x0, x1, x2, x3⟩ := row4 (keepO g1 hb2)
  have HB2 : Hid (Below w.heap.size w w2) := btr hb1 hb2
  have e1 := (HB2.out.cell (p := ⟨b, off + l, none⟩) hbl).trans l0
  have d0 : ¬ (l : Int) < 0 := by omega
  have d1 : decide ((l : Int) < 0) = false := by simp
  have HW2 : Hid (((w.alloc (askO (some ⟨b, off, none⟩) n c l q ar)).alloc (.cells #[.int .i64 0, .int .i64 0, .int .i64 0, .int .i64 0, .int .i64 0] 41)).alloc (.cells #[.int .i64 0, .int .i64 0] 74) = w2) := by show _ = _; rw [hw1, hw2]
  have HS2 : Hid (QuS w (askO (some ⟨b, off, none⟩) n c l q ar) 0 0 w2) := ⟨HB2.out, keepO g1 hb2, keepO g2 hb2, g3⟩
  have HRD : Hid (∀ W, Below w.heap.size w W → Rd .i32 W ra m rc x) := fun W hW => hrd.below hW
  have hIN : Hid (∀ (v : Int) (W : World), Calls Tryd.prog 38 #[askL (some ⟨b, off, none⟩) n c l q ar, .int .i64 v] W fun e w' => e = .returned (.agg #[.int .i64 (l : Nat), .int .i64 v]) ∧ Below W.heap.size W w') := fun v W => inline_any _ n c l q ar v W
  have HRES := Lib.hid hres
  have HX := Lib.hid hx
  have HM := Lib.hid hm
  clear h hl hp hrd hx hm hR hw1 hw2 g1 g2 g3 hb1 hb2 hsz hsz2 l0 hres
  go_enter Tryd.func30, Tryd.ntmps30
  go_upto_region 2 with fail
  rw [HW2.out]
  go_wp2_with fail
  clear x0 x1 x2 x3 e1
  go_loopw [7, 18] (fun v7 v18 wr => ∃ (s : Nat) (f : Option Nat) (i : Nat) (b0 b1 : Int), v7 = .int .i64 (s : Nat) ∧ v18 = .int .i64 (i : Nat) ∧ i ≤ m ∧ Hid (s ≤ i) ∧ Hid ((f = none ∧ s % 2 = 0) ∨ (∃ k, f = some k ∧ s % 2 = 1 ∧ b0 = (k : Nat) ∧ k < i)) ∧ Hid (QuS w (askO (some ⟨b, off, none⟩) n c l q ar) b0 b1 wr) ∧ Hid (quoP q (pendQ f ++ qfilt x key i) = res)) (fun _ v18 _ => m - (intOf v18).toNat)
  case atStart => exact ⟨0, none, 0, 0, 0, rfl, rfl, Nat.zero_le _, Nat.le_refl _, .inl ⟨rfl, rfl⟩, HS2.out, HRES.out⟩
  case round =>
    clear HS2 HRES
    obtain ⟨s, f, i, b0, b1, rfl, rfl, him, HSI, HF, HS, HQ⟩ := hrel
    by_cases hi : i < m
    · obtain ⟨rb, ro, rfl, hrb, c0⟩ := (HRD.out wr HS.out.1).at_ (i := i) hi
      obtain ⟨rr, hrr⟩ : ∃ r, x.getD i 0 = r := ⟨_, rfl⟩
      have hqq := HQ.out
      rw [qfilt_step (by rw [HM.out]; exact hi), hrr] at hqq
      rw [hrr] at c0
      have d0 : (i : Int) < (m : Int) := by omega
      have d1 : decide ((i : Int) < (m : Int)) = true := by simp; omega
      have d2 : ¬ (i : Int) < 0 := by omega
      have d3 : decide ((i : Int) < 0) = false := by simp
      have HI := Lib.hid hi
      have hss : (s : Int) ≤ 9223372036854775806 := by have := HSI.out; omega
      clear hrr hi HQ
      by_cases hr : rr = key
      · rw [if_pos hr] at hqq
        rw [hr] at c0
        clear hr
        obtain ⟨x0, x1, x2, x3, -, -⟩ := HS.out.q.cells
        obtain ⟨y0, y1, yf0, yf1⟩ := row2 HS.out.2.2.2
        obtain ⟨s1, hs1⟩ : ∃ s1, s + 1 = s1 := ⟨_, rfl⟩
        have t0 : (s : Int) + 1 = (s1 : Int) := by omega
        have HS1 : Hid (s + 1 = s1) := hs1
        rcases HF.out with ⟨hf, hs⟩ | ⟨k, hf, hs, hb0, hki⟩
        · subst hf
          have HQ2 : Hid (quoP q (pendQ (some i) ++ qfilt x key (i + 1)) = res) := hqq
          have HP1 : Hid (s1 % 2 = 1) := by show _ = _; omega
          have m1 : (s : Int) % 2 = 0 := by omega
          have m2 : (s : Int).tmod 2 = 0 := by rw [Int.tmod_eq_emod_of_nonneg (by omega)]; omega
          have m4 : (s1 : Int) % 2 = 1 := by omega
          have m5 : (s1 : Int).tmod 2 = 1 := by rw [Int.tmod_eq_emod_of_nonneg (by omega)]; omega
          have m6 : s % 2 = 0 := hs
          have m7 : s1 % 2 = 1 := by omega
          clear hs hs1 hqq HF
          go_wp2_with fail
          go_roundw
          case rel => exact ⟨s1, some i, i + 1, (i : Nat), b1, by first | rfl | go_num, by go_num, by have := HI.out; omega, by have := HSI.out; have := HS1.out; show _ ≤ _; omega, .inr ⟨i, rfl, HP1.out, rfl, by omega⟩, HS.out.set0 _, HQ2.out⟩
          case measure => have := HI.out; simp [intOf]; omega
        · subst hf
          subst hb0
          have hq2 : quoP q (k :: i :: qfilt x key (i + 1)) = res := hqq
          rw [quoP] at hq2
          have HP1 : Hid (s1 % 2 = 0) := by show _ = _; omega
          have m1 : (s : Int) % 2 = 1 := by omega
          have m2 : (s : Int).tmod 2 = 1 := by rw [Int.tmod_eq_emod_of_nonneg (by omega)]; omega
          have m4 : (s1 : Int) % 2 = 0 := by omega
          have m5 : (s1 : Int).tmod 2 = 0 := by rw [Int.tmod_eq_emod_of_nonneg (by omega)]; omega
          have m6 : s % 2 = 1 := hs
          have m7 : s1 % 2 = 0 := by omega
          by_cases hc : q ≤ i
          · rw [if_pos hc] at hq2
            have e2 : (q : Int) ≤ (i : Int) := by omega
            have e3 : decide ((q : Int) ≤ (i : Int)) = true := by simp; omega
            have e4 : decide (q ≤ i) = true := by simp; omega
            have HRK := Lib.hid (HR1.out k i hq2.symm)
            have HKI := Lib.hid hki
            clear hs hs1 hqq hq2 HF hc hki
            go_upto_region 10 with fail
            have hs0 := HS.out.set1 (i : Nat)
            obtain ⟨w6, hw6⟩ : ∃ y, wr.setCell ⟨w.heap.size + 1 + 1, 1, none⟩ (.int .i64 (i : Nat)) = y := ⟨_, rfl⟩
            rw [hw6] at hs0
            rw [hw6]
            clear hw6 x0 x1 x2 x3 y0 y1 yf0 yf1
            refine wp_region_held (S := QuQ w (askO (some ⟨b, off, none⟩) n c l q ar) (k : Nat) (i : Nat)) (by kernel_rfl) ?_
            change wpAnyH _ _ _ _ _ _ _ _ (World.drew _)
            have hHA : (QuQ w (askO (some ⟨b, off, none⟩) n c l q ar) (k : Nat) (i : Nat)) (World.drew w6) := hs0.q.drew
            refine takeH 0 (some 42) (v := ?_) rfl rfl (by kernel_rfl) (by kernel_rfl) (by kernel_rfl) (fun _ _ _ h => h) (Or.inl ⟨by kernel_rfl, ?_⟩) hHA ?_
            rotate_left
            · intro w' hSw
              obtain ⟨s0, s1', s2, s3, s4, s5⟩ := hSw.cells
              go_simp
              try with_reducible rfl
            (try simp only [Act.put, List.setIfInBounds_toArray, List.set_cons_zero, List.set_cons_succ])
            refine takeH 1 (some 43) (v := ?_) rfl rfl (by kernel_rfl) (by kernel_rfl) (by kernel_rfl) (fun _ _ _ h => h) (Or.inl ⟨by kernel_rfl, ?_⟩) hHA ?_
            rotate_left
            · intro w' hSw
              obtain ⟨s0, s1', s2, s3, s4, s5⟩ := hSw.cells
              go_simp
              try with_reducible rfl
            (try simp only [Act.put, List.setIfInBounds_toArray, List.set_cons_zero, List.set_cons_succ])
            refine takeH 2 (some 44) (v := ?_) rfl rfl (by kernel_rfl) (by kernel_rfl) (by kernel_rfl) (fun _ _ _ h => h) (Or.inl ⟨by kernel_rfl, ?_⟩) hHA ?_
            rotate_left
            · intro w' hSw
              obtain ⟨s0, s1', s2, s3, s4, s5⟩ := hSw.cells
              go_simp
              try with_reducible rfl
            (try simp only [Act.put, List.setIfInBounds_toArray, List.set_cons_zero, List.set_cons_succ])
            refine takeH 3 (some 45) (v := ?_) rfl rfl (by kernel_rfl) (by kernel_rfl) (by kernel_rfl) (fun _ _ _ h => h) (Or.inl ⟨by kernel_rfl, ?_⟩) hHA ?_
            rotate_left
            · intro w' hSw
              obtain ⟨s0, s1', s2, s3, s4, s5⟩ := hSw.cells
              go_simp
              try with_reducible rfl
            (try simp only [Act.put, List.setIfInBounds_toArray, List.set_cons_zero, List.set_cons_succ])
            refine takeH 5 (some 47) (v := ?_) rfl rfl (by kernel_rfl) (by kernel_rfl) (by kernel_rfl) (fun _ _ _ h => h) (Or.inl ⟨by kernel_rfl, ?_⟩) hHA ?_
            rotate_left
            · intro w' hSw
              obtain ⟨s0, s1', s2, s3, s4, s5⟩ := hSw.cells
              go_simp
              try with_reducible rfl
            (try simp only [Act.put, List.setIfInBounds_toArray, List.set_cons_zero, List.set_cons_succ])
            refine takeH 6 (some 48) (v := ?_) rfl rfl (by kernel_rfl) (by kernel_rfl) (by kernel_rfl) (fun _ _ _ h => h) (Or.inl ⟨by kernel_rfl, ?_⟩) hHA ?_
            rotate_left
            · intro w' hSw
              obtain ⟨s0, s1', s2, s3, s4, s5⟩ := hSw.cells
              go_simp
              try with_reducible rfl
            (try simp only [Act.put, List.setIfInBounds_toArray, List.set_cons_zero, List.set_cons_succ])
            refine takeH 7 (some 49) (v := ?_) rfl rfl (by kernel_rfl) (by kernel_rfl) (by kernel_rfl) (fun _ _ _ h => h) (Or.inl ⟨by kernel_rfl, ?_⟩) hHA ?_
            rotate_left
            · intro w' hSw
              obtain ⟨s0, s1', s2, s3, s4, s5⟩ := hSw.cells
              go_simp
              try with_reducible rfl
            (try simp only [Act.put, List.setIfInBounds_toArray, List.set_cons_zero, List.set_cons_succ])
            refine callH 4 (some 46) (f := 38) (args := ?_) rfl rfl (by kernel_rfl) (by kernel_rfl) ?_ ?_
            rotate_left
            · go_simp
              try with_reducible rfl
            refine (hIN.out _ _).mono ?_
            rintro e vA1 ⟨rfl, hbA1⟩
            have hg1 := keepO (W := w6.drew) hs0.2.2.1 hbA1
            have hHA1 := hHA.below hbA1
            refine ⟨_, rfl, hHA1, ?_⟩
            (try simp only [Act.put, List.setIfInBounds_toArray, List.set_cons_zero, List.set_cons_succ])
            refine callH 8 (some 50) (f := 38) (args := ?_) rfl rfl (by kernel_rfl) (by kernel_rfl) ?_ ?_
            rotate_left
            · go_simp
              try with_reducible rfl
            refine (hIN.out _ _).mono ?_
            rintro e vA2 ⟨rfl, hbA2⟩
            have hg2 := keepO hg1 hbA2
            have hHA12 := hHA1.below hbA2
            refine ⟨_, rfl, hHA12, ?_⟩
            (try simp only [Act.put, List.setIfInBounds_toArray, List.set_cons_zero, List.set_cons_succ])
            refine callH 9 (some 51) (f := 40) (args := ?_) rfl rfl (by kernel_rfl) (by kernel_rfl) ?_ ?_
            rotate_left
            · go_simp
              try with_reducible rfl
            refine (HBT.out k i _ hHA12.1 HKI.out HI.out).mono ?_
            rintro e vA3 ⟨z1, z2, z3, z4, z5, zk, rfl, hz, hbA3⟩
            have HZ := Lib.hid hz
            clear hz
            have hg3 := keepO hg2 hbA3
            obtain ⟨r0, r1, r2, r3, r4, rf0, rf1, rf2, rf3, rf4⟩ := row5 hg3
            have hHA123 := hHA12.below hbA3
            refine ⟨_, rfl, hHA123, ?_⟩
            (try simp only [Act.put, List.setIfInBounds_toArray, List.set_cons_zero, List.set_cons_succ])
            refine takeH 10 (some 52) (v := ?_) rfl rfl (by kernel_rfl) (by kernel_rfl) (by kernel_rfl) (fun _ _ _ h => h) (Or.inl ⟨by kernel_rfl, ?_⟩) hHA123 ?_
            rotate_left
            · intro w' hSw
              obtain ⟨s0, s1', s2, s3, s4, s5⟩ := hSw.cells
              go_simp
              try with_reducible rfl
            (try simp only [Act.put, List.setIfInBounds_toArray, List.set_cons_zero, List.set_cons_succ])
            refine takeH 11 (some 53) (v := ?_) rfl rfl (by kernel_rfl) (by kernel_rfl) (by kernel_rfl) (fun _ _ _ h => h) (Or.inl ⟨by kernel_rfl, ?_⟩) hHA123 ?_
            rotate_left
            · intro w' hSw
              obtain ⟨s0, s1', s2, s3, s4, s5⟩ := hSw.cells
              go_simp
              try with_reducible rfl
            (try simp only [Act.put, List.setIfInBounds_toArray, List.set_cons_zero, List.set_cons_succ])
            have hHA1234 : (QuQ w (askO (some ⟨b, off, none⟩) n c l q ar) (k : Nat) (i : Nat)) ((((((vA3.setCell ⟨w.heap.size + 1, 0, none⟩ (.int .i64 z1)).setCell ⟨w.heap.size + 1, 1, none⟩ (.int .i64 z2)).setCell ⟨w.heap.size + 1, 2, none⟩ (.int .i64 z3)).setCell ⟨w.heap.size + 1, 3, none⟩ (.int .i64 z4)).setCell ⟨w.heap.size + 1, 4, none⟩ (.int .i64 z5))) := ((((hHA123.put 0 _).put 1 _).put 2 _).put 3 _).put 4 _
            refine storeH 12 (w' := (((((vA3.setCell ⟨w.heap.size + 1, 0, none⟩ (.int .i64 z1)).setCell ⟨w.heap.size + 1, 1, none⟩ (.int .i64 z2)).setCell ⟨w.heap.size + 1, 2, none⟩ (.int .i64 z3)).setCell ⟨w.heap.size + 1, 3, none⟩ (.int .i64 z4)).setCell ⟨w.heap.size + 1, 4, none⟩ (.int .i64 z5))) rfl rfl (by kernel_rfl) (by kernel_rfl) ?_ hHA1234 ?_
            · go_simp
              try rfl
            (try simp only [Act.put, List.setIfInBounds_toArray, List.set_cons_zero, List.set_cons_succ])
            have HEND := hHA1234
            refine takeH 13 (some 5) (v := ?_) rfl rfl (by kernel_rfl) (by kernel_rfl) (by kernel_rfl) (fun _ _ _ h => h) (Or.inl ⟨by kernel_rfl, ?_⟩) hHA1234 ?_
            rotate_left
            · intro w' hSw
              obtain ⟨s0, s1', s2, s3, s4, s5⟩ := hSw.cells
              go_simp
              try with_reducible rfl
            (try simp only [Act.put, List.setIfInBounds_toArray, List.set_cons_zero, List.set_cons_succ])
            refine wpAnyH_done (by kernel_rfl) ?_ _
            clear r0 r1 r2 r3 r4 rf0 rf1 rf2 rf3 rf4
            obtain ⟨e0', e1', e2', e3', e4', -⟩ := row5 (heap_set (heap_set (heap_set (heap_set (heap_set hg3 0 (.int .i64 z1)) 1 (.int .i64 z2)) 2 (.int .i64 z3)) 3 (.int .i64 z4)) 4 (.int .i64 z5))
            go_wp2_with fail
            refine bodyPost_ret (v := .tuple #[regL z1 z2 z3 z4 z5, .bool zk]) ?_ rfl ⟨_, _, _, _, _, _, rfl, by rw [HRK.out]; exact HZ.out, HEND.1⟩
            rw [results_ct rfl]
            go_simp
          · rw [if_neg hc] at hq2
            have e2 : ¬ (q : Int) ≤ (i : Int) := by omega
            have e3 : decide ((q : Int) ≤ (i : Int)) = false := by simp; omega
            have e4 : decide (q ≤ i) = false := by simp; omega
            have HQ2 : Hid (quoP q (pendQ none ++ qfilt x key (i + 1)) = res) := hq2
            clear hs hs1 hqq hq2 HF hc hki
            go_wp2_with fail
            go_roundw
            case rel => exact ⟨s1, none, i + 1, (k : Nat), (i : Nat), by first | rfl | go_num, by go_num, by have := HI.out; omega, by have := HSI.out; have := HS1.out; show _ ≤ _; omega, .inl ⟨rfl, HP1.out⟩, HS.out.set1 _, HQ2.out⟩
            case measure => have := HI.out; simp [intOf]; omega
      · rw [if_neg hr] at hqq
        have e0 : (rr != key) = true := by simp [hr]
        have HQ2 := Lib.hid hqq
        clear hqq hr
        go_wp2_with fail
        go_roundw
        case rel => exact ⟨s, f, i + 1, b0, b1, rfl, by go_num, by have := HI.out; omega, by have := HSI.out; show _ ≤ _; omega, by
          rcases HF.out with h | ⟨k, h1, h2, h3, h4⟩
          · exact .inl h
          · exact .inr ⟨k, h1, h2, h3, by omega⟩, HS.out, HQ2.out⟩
        case measure => have := HI.out; simp [intOf]; omega
    · have hqq := HQ.out
      rw [qfilt_end (by rw [HM.out]; omega), List.append_nil] at hqq
      have HRN : Hid (R = none) := HR0.out (by
        rw [← hqq]
        cases f <;> rfl)
      have d0 : ¬ (i : Int) < (m : Int) := by omega
      have d1 : decide ((i : Int) < (m : Int)) = false := by simp; omega
      obtain ⟨r0, r1, r2, r3, r4, rf0, rf1, rf2, rf3, rf4⟩ := row5 HS.out.2.2.1
      clear hqq hi HF
      go_wp2_with fail
      refine bodyPost_ret (v := .tuple #[regL 0 0 0 0 0, .bool false]) ?_ rfl ⟨0, 0, 0, 0, 0, false, rfl, by rw [HRN.out]; rfl, ?_⟩
      · rw [results_ct rfl]
        go_simp
      · have h2 := HS.out.1
        (repeat' (first | with_reducible exact h2 | omega | with_reducible refine setCell_below ?_ _ _ _ ?_))
end Go.Proofs.YthlhgkeodaifcaaDoor.U
