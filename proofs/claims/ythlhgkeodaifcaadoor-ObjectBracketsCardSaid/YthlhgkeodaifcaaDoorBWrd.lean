/-
  The program's word, block: runs of a line's runes, of a text's lines. (MADE by wip/tools/gen_bwrd.py.)
-/
import Derived.Test.YthlhgkeodaifcaaDoorBCls
import Derived.Laws.EntriesVeiled
namespace Go.Proofs.YthlhgkeodaifcaaDoor.U
open Go.RowKit
set_option linter.unusedVariables false
set_option linter.unusedSimpArgs false
set_option maxRecDepth 100000

/-- what a part of find tells: a region, whether it is one -/
def RgOk (r : Option (Pl × Pl × Int)) (x1 x2 y1 y2 k : Int) (ok : Bool) : Prop := match r with
  | none => ok = false
  | some (a, b, kd) => ok = true ∧ x1 = (a.1 : Nat) ∧ x2 = (a.2 : Nat) ∧ y1 = (b.1 : Nat) ∧ y2 = (b.2 : Nat) ∧ k = kd
def RgE (r : Option (Pl × Pl × Int)) (w : World) (e : Ending) (w' : World) : Prop := ∃ x1 x2 y1 y2 k ok, e = .returned (.tuple #[regL x1 x2 y1 y2 k, .bool ok]) ∧ RgOk r x1 x2 y1 y2 k ok ∧ Below w.heap.size w w'
/-- the boxes of word's last row: what it is asked with, the piece -/
def WdS (w : World) (A : Obj) (G : Nat) (f t : Int) (W : World) : Prop := Below w.heap.size w W ∧ W.heap[w.heap.size]? = some A ∧ W.heap[G]? = some (.cells #[.int .i64 f, .int .i64 t] 70 (0, 0)) ∧ w.heap.size + 1 + 1 < G
theorem WdS.below {w W W2 : World} {A : Obj} {G : Nat} {f t : Int} (h : WdS w A G f t W) (hb : Below W.heap.size W W2) : WdS w A G f t W2 := by
  obtain ⟨h1, h2, h3, h4⟩ := h
  exact ⟨btr h1 hb, keepO h2 hb, keepO h3 hb, h4⟩
theorem WdS.drew {w W : World} {A : Obj} {G : Nat} {f t : Int} (h : WdS w A G f t W) : WdS w A G f t W.drew := h.below ((Below.refl _ W).drew)
theorem WdS.cells {w W : World} {a : Option Addr} {n c l q : Nat} {ar : Bool} {G : Nat} {f t : Int} (h : WdS w (askO a n c l q ar) G f t W) : W.cell? ⟨w.heap.size, 0, none⟩ = some (.slice a n c) ∧ W.cell? ⟨w.heap.size, 1, none⟩ = some (.int .i64 (l : Nat)) ∧ W.cell? ⟨w.heap.size, 2, none⟩ = some (.int .i64 (q : Nat)) ∧ W.cell? ⟨w.heap.size, 3, none⟩ = some (.bool ar) ∧ W.cell? ⟨G, 0, none⟩ = some (.int .i64 f) ∧ W.cell? ⟨G, 1, none⟩ = some (.int .i64 t) := by
  obtain ⟨h1, h2, h3, h4⟩ := h
  obtain ⟨a0, a1, a2, a3⟩ := row4 h2
  obtain ⟨b0, b1, -, -⟩ := row2 h3
  exact ⟨a0, a1, a2, a3, b0, b1⟩
theorem WdS.put {w W : World} {A : Obj} {G : Nat} {f t : Int} (h : WdS w A G f t W) (i : Nat) (v : Value) : WdS w A G f t (W.setCell ⟨w.heap.size + 1 + 1, i, none⟩ v) := by
  obtain ⟨h1, h2, h3, h4⟩ := h
  have k1 : ¬ w.heap.size = w.heap.size + 1 + 1 := by omega
  have k2 : ¬ G = w.heap.size + 1 + 1 := by omega
  exact ⟨setCell_below h1 _ _ _ (by omega), (Below.heap_setCell _ _ _ _ k1).trans h2, (Below.heap_setCell _ _ _ _ k2).trans h3, h4⟩
set_option maxHeartbeats 4000000 in
theorem aword_any (F : Nat → Prop) (a : Option Addr) (n c l q : Nat) (ar : Bool) (L : List (List Int)) (big : Bool) (w : World) (h : RdL F w a n c L) (hp : okP L (l, q)) :
    Calls Tryd.prog 28 #[askL a n c l q ar, .bool big] w (RgE ((wordsP (lnL L l) q big ar).map fun r => ((l, r.1), (l, r.2), 0)) w) := by
  have hl := h.len
  have hsm := h.small
  obtain ⟨b, off, ra, rc, rfl, hln, hbl, l0, hrd⟩ := okP.line (p := (l, q)) h hp (Below.refl _ w)
  simp only at l0 hrd hln
  have hms := hrd.small
  have hq := hp.2
  simp only at hq
  obtain ⟨x, hx⟩ : ∃ x, lnL L l = x := ⟨_, rfl⟩
  rw [hx] at l0 hrd hms hq ⊢
  obtain ⟨m, hm⟩ : ∃ m, x.length = m := ⟨_, rfl⟩
  rw [hm] at l0 hrd hms hq
  obtain ⟨R, hR⟩ : ∃ R, ((wordsP x q big ar).map fun r => (((l, r.1) : Pl), ((l, r.2) : Pl), (0 : Int))) = R := ⟨_, rfl⟩
  rw [hR]
  obtain ⟨w1, hw1, hsz, g1, g2, g3, hb1⟩ := three3 w (askO (some ⟨b, off, none⟩) n c l q ar) (.cells #[.bool big] 4) (.cells #[.int .i64 0, .int .i64 0, .int .i64 0, .int .i64 0, .int .i64 0] 41)
  obtain ⟨x0, x1, x2, x3⟩ := row4 g1
  obtain ⟨r0, r1, r2, r3, r4, rf0, rf1, rf2, rf3, rf4⟩ := row5 g3
  have e1 := (hb1.cell (p := ⟨b, off + l, none⟩) hbl).trans l0
  have d0 : ¬ (l : Int) < 0 := by omega
  have d1 : decide ((l : Int) < 0) = false := by simp
  obtain ⟨w2, hw2, hsz2, g4, hb2⟩ := one1 w1 (.cells #[.slice ra m rc] 32)
  have HW1 := Lib.hid hw1
  have HW2 := Lib.hid hw2
  have HB2 : Hid (Below w.heap.size w w2) := btr hb1 hb2
  have G1 := Lib.hid (keepO g1 hb2)
  have G2 := Lib.hid (keepO g2 hb2)
  have G3 := Lib.hid (keepO g3 hb2)
  obtain ⟨S, hS⟩ : ∃ S, w1.heap.size = S := ⟨_, rfl⟩
  rw [hS] at g4
  have HSS := Lib.hid hS
  have hSlt : w.heap.size + 1 + 1 < S := by omega
  have hy0 : w2.cell? ⟨S, 0, none⟩ = some (.slice ra m rc) := by rw [cell_row g4]; rfl
  have HRD := Lib.hid (hrd.below HB2.out)
  have HR := Lib.hid hR
  have HX := Lib.hid hx
  have HM := Lib.hid hm
  by_cases h0 : m = 0
  · have e0 : ((m : Int) == 0) = true := by simp; omega
    have HRN : Hid (R = none) := by
      show _ = _
      rw [← hR, show x = [] from List.eq_nil_of_length_eq_zero (by omega), words_none]; rfl
    clear h hl hp hrd hx hm hR hw1 hw2 g1 g2 g3 g4 hb1 hb2 hsz hsz2 hS l0 h0
    go_enter Tryd.func28, Tryd.ntmps28
    go_upto_region 1 with fail
    rw [HW1.out]
    go_upto_region 2 with fail
    rw [HW2.out, HSS.out]
    have y0 := hy0
    obtain ⟨r0, r1, r2, r3, r4, rf0, rf1, rf2, rf3, rf4⟩ := row5 G3.out
    go_wp2_with fail
    refine bodyPost_ret (v := .tuple #[regL 0 0 0 0 0, .bool false]) ?_ rfl ⟨0, 0, 0, 0, 0, false, rfl, by rw [HRN.out]; rfl, ?_⟩
    · rw [results_ct rfl]
      go_simp
    · have h2 := HB2.out
      (repeat' (first | with_reducible exact h2 | omega | with_reducible refine setCell_below ?_ _ _ _ ?_))
  · have e0 : ((m : Int) == 0) = false := by simp; omega
    have hqm : q < m := by omega
    obtain ⟨w4, hw4, hsz4, g5, hb4⟩ := one1 w2 (.cells #[.int .i64 (m : Nat), .func (.func 35) #[] #[.pointer (some ⟨S, 0, none⟩), .pointer (some ⟨w.heap.size + 1, 0, none⟩)]] 68)
    obtain ⟨⟨sf, st, ok⟩, hsp⟩ : ∃ y, spP (objP (clsAt big x) m q ar) = y := ⟨_, rfl⟩
    have HB4 : Hid (Below w.heap.size w w4) := btr HB2.out hb4
    have HOB : Hid (Calls Tryd.prog 37 #[.agg #[.int .i64 (m : Nat), .func (.func 35) #[] #[.pointer (some ⟨S, 0, none⟩), .pointer (some ⟨w.heap.size + 1, 0, none⟩)]], .int .i64 (q : Nat), .bool ar] w4 fun e w' => e = .returned (.tuple #[.agg #[.int .i64 sf, .int .i64 st], .bool ok]) ∧ Below w4.heap.size w4 w') := by
      have := object_W S (w.heap.size + 1) (clsAt big x) m w4 hms (fun k W hk hW => word1_any S (w.heap.size + 1) ra m rc x big k W (HRD.out.below (btr hb4 hW)) (((btr hb4 hW).cell (p := ⟨S, 0, none⟩) (Array.getElem?_eq_some_iff.1 g4).1).trans hy0) (by rw [cell_row (keepO G2.out (btr hb4 hW))]; rfl) hk) q ar hqm
      unfold spVW at this
      rw [hsp] at this
      exact this
    have HRK : Hid (RgOk R (l : Nat) sf (l : Nat) (st - 1) 0 ok ∧ 0 ≤ st ∧ st ≤ 9223372036854775807) := by
      show _ ∧ _
      have hwo := words_obj (big := big) (around := ar) (x := x) (col := q) (by omega)
      rw [hm] at hwo
      rw [← hR, hwo]
      cases ho : objP (clsAt big x) m q ar with
      | none =>
        rw [ho] at hsp
        cases hsp
        exact ⟨rfl, by omega, by omega⟩
      | some y =>
        obtain ⟨y1, y2⟩ := y
        have hlt : y2 < m := by
          cases ar with
          | false =>
            rw [← hwo] at ho
            rw [words_inner (by rintro rfl; simp at hm; omega)] at ho
            have := (run_props (big := big) (x := x) (k := q) (by omega)).2.2.1
            simp only [Option.some.injEq] at ho
            rw [ho] at this
            simp only at this
            omega
          | true =>
            rw [← hwo] at ho
            have := (words_around (by omega) ho).2.2
            simp only at this
            omega
        rw [ho] at hsp
        cases hsp
        refine ⟨⟨rfl, rfl, rfl, rfl, ?_, rfl⟩, by omega, by omega⟩
        show ((y2 + 1 : Nat) : Int) - 1 = (y2 : Nat)
        omega
    have HW4 := Lib.hid hw4
    have G5 := Lib.hid g5
    obtain ⟨S4, hS4⟩ : ∃ S, w2.heap.size = S := ⟨_, rfl⟩
    have HS4 := Lib.hid hS4
    have G14 := Lib.hid (keepO G1.out hb4)
    have G34 := Lib.hid (keepO G3.out hb4)
    rw [hS4] at g5
    obtain ⟨z0, z1⟩ := rowF g5
    have hIN : Hid (∀ (v : Int) (W : World), Calls Tryd.prog 38 #[askL (some ⟨b, off, none⟩) n c l q ar, .int .i64 v] W fun e w' => e = .returned (.agg #[.int .i64 (l : Nat), .int .i64 v]) ∧ Below W.heap.size W w') := fun v W => inline_any _ n c l q ar v W
    clear h hl hp hrd hx hm hR hw1 hw2 g1 g2 g3 g4 hb1 hb2 hsz hsz2 hS l0 h0 hw4 hsz4 g5 hb4 hsp hS4
    go_enter Tryd.func28, Tryd.ntmps28
    go_upto_region 1 with fail
    rw [HW1.out]
    go_upto_region 2 with fail
    rw [HW2.out, HSS.out]
    have y0 := hy0
    clear hy0
    go_upto_region 5 with fail
    rw [HW4.out, HS4.out]
    obtain ⟨x0, x1, x2, x3⟩ := row4 G14.out
    go_upto_region 6 with (go_at_call 37; refine HOB.out.mono ?_; rintro e w5 ⟨rfl, hb5⟩)
    obtain ⟨w6, hw6, hsz6, g6, hb6⟩ := one1 w5 (.cells #[.int .i64 sf, .int .i64 st] 70)
    rw [hw6]
    have hb46 := btr hb5 hb6
    have hg0 := keepO G34.out hb46
    have hG : w.heap.size + 1 + 1 < w5.heap.size := by have := (Array.getElem?_eq_some_iff.1 (keepO G34.out hb5)).1; exact this
    obtain ⟨G, hGe⟩ : ∃ G, w5.heap.size = G := ⟨_, rfl⟩
    rw [hGe] at g6 hG
    rw [hGe]
    have hs0 : WdS w (askO (some ⟨b, off, none⟩) n c l q ar) G sf st w6 := ⟨btr HB4.out hb46, keepO G14.out hb46, g6, hG⟩
    have k0 := HRK.out.2.1
    have k1 := HRK.out.2.2
    have k2 : (-1 : Int) ≤ st - 1 := by omega
    have k3 : IntKind.i64.wrap (st - 1) = st - 1 := by rw [IntKind.wrap_i64]; omega
    clear hw6 hsz6 g6 hb6 hb5 hb46 hGe x0 x1 x2 x3 z0 z1 y0 r0 r1 r2 r3 r4 rf0 rf1 rf2 rf3 rf4
    refine wp_region_held (S := WdS w (askO (some ⟨b, off, none⟩) n c l q ar) G sf st) (by kernel_rfl) ?_
    change wpAnyH _ _ _ _ _ _ _ _ (World.drew _)
    have hHA : (WdS w (askO (some ⟨b, off, none⟩) n c l q ar) G sf st) (World.drew w6) := hs0.drew
    refine takeH 0 (some 35) (v := ?_) rfl rfl (by kernel_rfl) (by kernel_rfl) (by kernel_rfl) (fun _ _ _ h => h) (Or.inl ⟨by kernel_rfl, ?_⟩) hHA ?_
    rotate_left
    · intro w' hSw
      obtain ⟨s0, s1, s2, s3, s4, s5⟩ := hSw.cells
      go_simp
      try with_reducible rfl
    (try simp only [Act.put, List.setIfInBounds_toArray, List.set_cons_zero, List.set_cons_succ])
    refine takeH 1 (some 36) (v := ?_) rfl rfl (by kernel_rfl) (by kernel_rfl) (by kernel_rfl) (fun _ _ _ h => h) (Or.inl ⟨by kernel_rfl, ?_⟩) hHA ?_
    rotate_left
    · intro w' hSw
      obtain ⟨s0, s1, s2, s3, s4, s5⟩ := hSw.cells
      go_simp
      try with_reducible rfl
    (try simp only [Act.put, List.setIfInBounds_toArray, List.set_cons_zero, List.set_cons_succ])
    refine takeH 2 (some 37) (v := ?_) rfl rfl (by kernel_rfl) (by kernel_rfl) (by kernel_rfl) (fun _ _ _ h => h) (Or.inl ⟨by kernel_rfl, ?_⟩) hHA ?_
    rotate_left
    · intro w' hSw
      obtain ⟨s0, s1, s2, s3, s4, s5⟩ := hSw.cells
      go_simp
      try with_reducible rfl
    (try simp only [Act.put, List.setIfInBounds_toArray, List.set_cons_zero, List.set_cons_succ])
    refine takeH 4 (some 39) (v := ?_) rfl rfl (by kernel_rfl) (by kernel_rfl) (by kernel_rfl) (fun _ _ _ h => h) (Or.inl ⟨by kernel_rfl, ?_⟩) hHA ?_
    rotate_left
    · intro w' hSw
      obtain ⟨s0, s1, s2, s3, s4, s5⟩ := hSw.cells
      go_simp
      try with_reducible rfl
    (try simp only [Act.put, List.setIfInBounds_toArray, List.set_cons_zero, List.set_cons_succ])
    refine takeH 5 (some 40) (v := ?_) rfl rfl (by kernel_rfl) (by kernel_rfl) (by kernel_rfl) (fun _ _ _ h => h) (Or.inl ⟨by kernel_rfl, ?_⟩) hHA ?_
    rotate_left
    · intro w' hSw
      obtain ⟨s0, s1, s2, s3, s4, s5⟩ := hSw.cells
      go_simp
      try with_reducible rfl
    (try simp only [Act.put, List.setIfInBounds_toArray, List.set_cons_zero, List.set_cons_succ])
    refine takeH 6 (some 41) (v := ?_) rfl rfl (by kernel_rfl) (by kernel_rfl) (by kernel_rfl) (fun _ _ _ h => h) (Or.inl ⟨by kernel_rfl, ?_⟩) hHA ?_
    rotate_left
    · intro w' hSw
      obtain ⟨s0, s1, s2, s3, s4, s5⟩ := hSw.cells
      go_simp
      try with_reducible rfl
    (try simp only [Act.put, List.setIfInBounds_toArray, List.set_cons_zero, List.set_cons_succ])
    refine takeH 7 (some 42) (v := ?_) rfl rfl (by kernel_rfl) (by kernel_rfl) (by kernel_rfl) (fun _ _ _ h => h) (Or.inl ⟨by kernel_rfl, ?_⟩) hHA ?_
    rotate_left
    · intro w' hSw
      obtain ⟨s0, s1, s2, s3, s4, s5⟩ := hSw.cells
      go_simp
      try with_reducible rfl
    (try simp only [Act.put, List.setIfInBounds_toArray, List.set_cons_zero, List.set_cons_succ])
    refine takeH 10 (some 45) (v := ?_) rfl rfl (by kernel_rfl) (by kernel_rfl) (by kernel_rfl) (fun _ _ _ h => h) (Or.inl ⟨by kernel_rfl, ?_⟩) hHA ?_
    rotate_left
    · intro w' hSw
      obtain ⟨s0, s1, s2, s3, s4, s5⟩ := hSw.cells
      go_simp
      try with_reducible rfl
    (try simp only [Act.put, List.setIfInBounds_toArray, List.set_cons_zero, List.set_cons_succ])
    refine callH 3 (some 38) (f := 38) (args := ?_) rfl rfl (by kernel_rfl) (by kernel_rfl) ?_ ?_
    rotate_left
    · go_simp
      try with_reducible rfl
    refine (hIN.out _ _).mono ?_
    rintro e vA1 ⟨rfl, hbA1⟩
    have hg1 := keepO (W := w6.drew) hg0 hbA1
    have hHA1 := hHA.below hbA1
    refine ⟨_, rfl, hHA1, ?_⟩
    (try simp only [Act.put, List.setIfInBounds_toArray, List.set_cons_zero, List.set_cons_succ])
    refine callH 8 (some 43) (f := 38) (args := ?_) rfl rfl (by kernel_rfl) (by kernel_rfl) ?_ ?_
    rotate_left
    · go_simp
      try with_reducible rfl
    refine (hIN.out _ _).mono ?_
    rintro e vA2 ⟨rfl, hbA2⟩
    have hg2 := keepO hg1 hbA2
    obtain ⟨r0, r1, r2, r3, r4, rf0, rf1, rf2, rf3, rf4⟩ := row5 hg2
    have hHA12 := hHA1.below hbA2
    refine ⟨_, rfl, hHA12, ?_⟩
    (try simp only [Act.put, List.setIfInBounds_toArray, List.set_cons_zero, List.set_cons_succ])
    refine takeH 9 (some 44) (v := ?_) rfl rfl (by kernel_rfl) (by kernel_rfl) (by kernel_rfl) (fun _ _ _ h => h) (Or.inl ⟨by kernel_rfl, ?_⟩) hHA12 ?_
    rotate_left
    · intro w' hSw
      obtain ⟨s0, s1, s2, s3, s4, s5⟩ := hSw.cells
      go_simp
      try with_reducible rfl
    (try simp only [Act.put, List.setIfInBounds_toArray, List.set_cons_zero, List.set_cons_succ])
    have hHA123 : (WdS w (askO (some ⟨b, off, none⟩) n c l q ar) G sf st) ((((((vA2.setCell ⟨w.heap.size + 1 + 1, 0, none⟩ (.int .i64 (l : Nat))).setCell ⟨w.heap.size + 1 + 1, 1, none⟩ (.int .i64 sf)).setCell ⟨w.heap.size + 1 + 1, 2, none⟩ (.int .i64 (l : Nat))).setCell ⟨w.heap.size + 1 + 1, 3, none⟩ (.int .i64 (st - 1))).setCell ⟨w.heap.size + 1 + 1, 4, none⟩ (.int .i64 0))) := ((((hHA12.put 0 _).put 1 _).put 2 _).put 3 _).put 4 _
    refine storeH 11 (w' := (((((vA2.setCell ⟨w.heap.size + 1 + 1, 0, none⟩ (.int .i64 (l : Nat))).setCell ⟨w.heap.size + 1 + 1, 1, none⟩ (.int .i64 sf)).setCell ⟨w.heap.size + 1 + 1, 2, none⟩ (.int .i64 (l : Nat))).setCell ⟨w.heap.size + 1 + 1, 3, none⟩ (.int .i64 (st - 1))).setCell ⟨w.heap.size + 1 + 1, 4, none⟩ (.int .i64 0))) rfl rfl (by kernel_rfl) (by kernel_rfl) ?_ hHA123 ?_
    · go_simp
      try rfl
    (try simp only [Act.put, List.setIfInBounds_toArray, List.set_cons_zero, List.set_cons_succ])
    have HEND := hHA123
    refine takeH 12 (some 5) (v := ?_) rfl rfl (by kernel_rfl) (by kernel_rfl) (by kernel_rfl) (fun _ _ _ h => h) (Or.inl ⟨by kernel_rfl, ?_⟩) hHA123 ?_
    rotate_left
    · intro w' hSw
      obtain ⟨s0, s1, s2, s3, s4, s5⟩ := hSw.cells
      go_simp
      try with_reducible rfl
    (try simp only [Act.put, List.setIfInBounds_toArray, List.set_cons_zero, List.set_cons_succ])
    refine wpAnyH_done (by kernel_rfl) ?_ _
    clear r0 r1 r2 r3 r4 rf0 rf1 rf2 rf3 rf4
    obtain ⟨e0', e1', e2', e3', e4', -⟩ := row5 (heap_set (heap_set (heap_set (heap_set (heap_set hg2 0 (.int .i64 (l : Nat))) 1 (.int .i64 sf)) 2 (.int .i64 (l : Nat))) 3 (.int .i64 (st - 1))) 4 (.int .i64 0))
    go_wp2_with fail
    refine bodyPost_ret (v := .tuple #[regL (l : Nat) sf (l : Nat) (st - 1) 0, .bool ok]) ?_ rfl ⟨_, _, _, _, _, _, rfl, HRK.out.1, HEND.1⟩
    rw [results_ct rfl]
    go_simp
set_option maxHeartbeats 4000000 in
theorem ablock_any (F : Nat → Prop) (a : Option Addr) (n c l q : Nat) (ar : Bool) (L : List (List Int)) (w : World) (h : RdL F w a n c L) (hp : l < n) :
    Calls Tryd.prog 29 #[askL a n c l q ar] w (RgE ((blocksP L l ar).map fun r => ((r.1, 0), (r.2, 0), 1)) w) := by
  have hl := h.len
  have hsm := h.small
  obtain ⟨R, hR⟩ : ∃ R, ((blocksP L l ar).map fun r => (((r.1, 0) : Pl), ((r.2, 0) : Pl), (1 : Int))) = R := ⟨_, rfl⟩
  rw [hR]
  obtain ⟨w1, hw1, hsz, g1, g2, hb1⟩ := two2 w (askO a n c l q ar) (.cells #[.int .i64 0, .int .i64 0, .int .i64 0, .int .i64 0, .int .i64 0] 41)
  obtain ⟨x0, x1, x2, x3⟩ := row4 g1
  obtain ⟨w4, hw4, hsz4, g5, hb4⟩ := one1 w1 (.cells #[.int .i64 (n : Nat), .func (.func 39) #[] #[.pointer (some ⟨w.heap.size, 0, none⟩)]] 68)
  obtain ⟨⟨sf, st, ok⟩, hsp⟩ : ∃ y, spP (objP (clsL L) n l ar) = y := ⟨_, rfl⟩
  have HB4 : Hid (Below w.heap.size w w4) := btr hb1 hb4
  have G14 := Lib.hid (keepO g1 hb4)
  have G24 := Lib.hid (keepO g2 hb4)
  have HOB : Hid (Calls Tryd.prog 37 #[.agg #[.int .i64 (n : Nat), .func (.func 39) #[] #[.pointer (some ⟨w.heap.size, 0, none⟩)]], .int .i64 (l : Nat), .bool ar] w4 fun e w' => e = .returned (.tuple #[.agg #[.int .i64 sf, .int .i64 st], .bool ok]) ∧ Below w4.heap.size w4 w') := by
    have := object_B w.heap.size (clsL L) n w4 hsm (fun k W hk hW => block1_any F w.heap.size a n c L k W (h.below (btr HB4.out hW)) (row4 (keepO G14.out hW)).1 hk) l ar hp
    unfold spVB at this
    rw [hsp] at this
    exact this
  have HRK : Hid (RgOk R sf 0 (st - 1) 0 1 ok ∧ 0 ≤ st ∧ st ≤ 9223372036854775807) := by
    show _ ∧ _
    have hbo := blocks_obj (around := ar) (L := L) (i := l) (by omega)
    rw [hl] at hbo
    rw [← hR, hbo]
    cases ho : objP (clsL L) n l ar with
    | none =>
      rw [ho] at hsp
      cases hsp
      exact ⟨rfl, by omega, by omega⟩
    | some y =>
      obtain ⟨y1, y2⟩ := y
      have hlt : y2 < n := by
        rw [← hbo] at ho
        cases ar with
        | false =>
          have := (block_props (L := L) (i := l) (by omega)).2.2.1
          unfold blocksP at ho
          rw [if_pos rfl] at ho
          simp only [Option.some.injEq] at ho
          rw [ho] at this
          simp only at this
          omega
        | true =>
          have := (blocks_around (by omega) ho).2.2
          simp only at this
          omega
      rw [ho] at hsp
      cases hsp
      refine ⟨⟨rfl, rfl, rfl, ?_, rfl, rfl⟩, by omega, by omega⟩
      show ((y2 + 1 : Nat) : Int) - 1 = (y2 : Nat)
      omega
  have HW1 := Lib.hid hw1
  have HW4 := Lib.hid hw4
  obtain ⟨S4, hS4⟩ : ∃ S, w1.heap.size = S := ⟨_, rfl⟩
  have HS4 := Lib.hid hS4
  rw [hS4] at g5
  obtain ⟨z0, z1⟩ := rowF g5
  have k0 := HRK.out.2.1
  have k1 := HRK.out.2.2
  have k2 : (-1 : Int) ≤ st - 1 := by omega
  clear h hl hp hR hw1 g1 g2 hb1 hsz hw4 hsz4 g5 hb4 hsp hS4
  go_enter Tryd.func29, Tryd.ntmps29
  go_upto_region 1 with fail
  rw [HW1.out]
  go_upto_region 2 with fail
  rw [HW4.out, HS4.out]
  obtain ⟨x0, x1, x2, x3⟩ := row4 G14.out
  go_upto_region 3 with (go_at_call 37; refine HOB.out.mono ?_; rintro e w5 ⟨rfl, hb5⟩)
  obtain ⟨w6, hw6, hsz6, g6, hb6⟩ := one1 w5 (.cells #[.int .i64 sf, .int .i64 st] 70)
  rw [hw6]
  have hb46 := btr hb5 hb6
  have HB6 : Hid (Below w.heap.size w w6) := btr HB4.out hb46
  have hG : w.heap.size + 1 < w5.heap.size := by have := (Array.getElem?_eq_some_iff.1 (keepO G24.out hb5)).1; exact this
  obtain ⟨r0, r1, r2, r3, r4, rf0, rf1, rf2, rf3, rf4⟩ := row5 (keepO G24.out hb46)
  obtain ⟨G, hGe⟩ : ∃ G, w5.heap.size = G := ⟨_, rfl⟩
  rw [hGe] at g6 hG
  rw [hGe]
  obtain ⟨s0, s1, -, -⟩ := row2 g6
  have n1 : ¬ G = w.heap.size + 1 := by omega
  clear hw6 hsz6 g6 hb6 hb5 hb46 hGe x0 x1 x2 x3 z0 z1
  go_wp2_with fail
  refine bodyPost_ret (v := .tuple #[regL sf 0 (st - 1) 0 1, .bool ok]) ?_ rfl ⟨_, _, _, _, _, _, rfl, HRK.out.1, ?_⟩
  · rw [results_ct rfl]
    go_simp
  · have h2 := HB6.out
    (repeat' (first | with_reducible exact h2 | omega | with_reducible refine setCell_below ?_ _ _ _ ?_))
end Go.Proofs.YthlhgkeodaifcaaDoor.U
