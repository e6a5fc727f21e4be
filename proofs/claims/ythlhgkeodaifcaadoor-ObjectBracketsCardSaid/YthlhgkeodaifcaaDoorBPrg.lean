/-
  The program's find, Find. (MADE by wip/tools/gen_bprg.py.)
-/
import Derived.Test.YthlhgkeodaifcaaDoorBBrd
import Derived.Test.YthlhgkeodaifcaaDoorBQut
import Derived.Test.YthlhgkeodaifcaaDoorBFind
namespace Go.Proofs.YthlhgkeodaifcaaDoor.U
open Go.RowKit
set_option linter.unusedVariables false
set_option linter.unusedSimpArgs false
set_option maxRecDepth 100000

/-- what lies in find's boxes, but for its result -/
def FnS (w : World) (A : Obj) (W : World) : Prop := Below w.heap.size w W ∧ W.heap[w.heap.size]? = some A ∧ Gl W
theorem FnS.below {w W W2 : World} {A : Obj} (h : FnS w A W) (hb : Below W.heap.size W W2) : FnS w A W2 := ⟨btr h.1 hb, keepO h.2.1 hb, h.2.2.up hb⟩
theorem FnS.drew {w W : World} {A : Obj} (h : FnS w A W) : FnS w A W.drew := h.below ((Below.refl _ W).drew)
theorem FnS.put {w W : World} {A : Obj} (h : FnS w A W) (h0 : 0 < w.heap.size) (i : Nat) (v : Value) : FnS w A (W.setCell ⟨w.heap.size + 1, i, none⟩ v) := by
  have k1 : ¬ w.heap.size = w.heap.size + 1 := by omega
  have hb : Below w.heap.size W (W.setCell ⟨w.heap.size + 1, i, none⟩ v) := setCell_below (Below.refl _ _) _ _ _ (by omega)
  exact ⟨h.1.trans hb, (Below.heap_setCell _ _ _ _ k1).trans h.2.1, fun j hj => (hb.cell (p := ⟨0, j, none⟩) h0).trans (h.2.2 j hj)⟩
theorem Gl.cells {w : World} (h : Gl w) : w.cell? ⟨0, 0, none⟩ = some (.int .i32 40) ∧ w.cell? ⟨0, 1, none⟩ = some (.int .i32 41) ∧ w.cell? ⟨0, 2, none⟩ = some (.int .i32 91) ∧ w.cell? ⟨0, 3, none⟩ = some (.int .i32 93) ∧ w.cell? ⟨0, 4, none⟩ = some (.int .i32 123) ∧ w.cell? ⟨0, 5, none⟩ = some (.int .i32 125) ∧ w.cell? ⟨0, 6, none⟩ = some (.int .i32 60) ∧ w.cell? ⟨0, 7, none⟩ = some (.int .i32 62) :=
  ⟨h 0 (by omega), h 1 (by omega), h 2 (by omega), h 3 (by omega), h 4 (by omega), h 5 (by omega), h 6 (by omega), h 7 (by omega)⟩
theorem FnS.cells {w W : World} {a : Option Addr} {n c l q : Nat} {ar : Bool} (h : FnS w (askO a n c l q ar) W) : (W.cell? ⟨w.heap.size, 0, none⟩ = some (.slice a n c) ∧ W.cell? ⟨w.heap.size, 1, none⟩ = some (.int .i64 (l : Nat)) ∧ W.cell? ⟨w.heap.size, 2, none⟩ = some (.int .i64 (q : Nat)) ∧ W.cell? ⟨w.heap.size, 3, none⟩ = some (.bool ar)) ∧
    W.cell? ⟨0, 0, none⟩ = some (.int .i32 40) ∧ W.cell? ⟨0, 1, none⟩ = some (.int .i32 41) ∧ W.cell? ⟨0, 2, none⟩ = some (.int .i32 91) ∧ W.cell? ⟨0, 3, none⟩ = some (.int .i32 93) ∧ W.cell? ⟨0, 4, none⟩ = some (.int .i32 123) ∧ W.cell? ⟨0, 5, none⟩ = some (.int .i32 125) ∧ W.cell? ⟨0, 6, none⟩ = some (.int .i32 60) ∧ W.cell? ⟨0, 7, none⟩ = some (.int .i32 62) := ⟨row4 h.2.1, h.2.2.cells⟩
set_option maxHeartbeats 8000000 in
theorem afind_any (F : Nat → Prop) (a : Option Addr) (n c l q : Nat) (ar : Bool) (L : List (List Int)) (key : Int) (w : World) (hg : Gl w) (h : RdL F w a n c L) (hp : okP L (l, q)) (hz : sizeN (lens L) ≤ 262144) :
    Calls Tryd.prog 19 #[askL a n c l q ar, .int .i32 key] w (RgE (fdP L (l, q) key ar) w) := by
  have hl := h.len
  have hln : l < n := by have := hp.1; simp only at this; omega
  have hlt0 := hg.lt
  obtain ⟨R, hR⟩ : ∃ R, fdP L (l, q) key ar = R := ⟨_, rfl⟩
  rw [hR]
  obtain ⟨w1, hw1, hsz, g1, g2, hb1⟩ := two2 w (askO a n c l q ar) (.cells #[.int .i64 0, .int .i64 0, .int .i64 0, .int .i64 0, .int .i64 0] 41)
  obtain ⟨x0, x1, x2, x3⟩ := row4 g1
  have HWO : Hid (∀ (big : Bool) W, Below w.heap.size w W → Calls Tryd.prog 28 #[askL a n c l q ar, .bool big] W (RgE ((wordsP (lnL L l) q big ar).map fun r => ((l, r.1), (l, r.2), 0)) W)) := fun big W hW => aword_any F a n c l q ar L big W (h.below hW) hp
  have HBL : Hid (∀ W, Below w.heap.size w W → Calls Tryd.prog 29 #[askL a n c l q ar] W (RgE ((blocksP L l ar).map fun r => ((r.1, 0), (r.2, 0), 1)) W)) := fun W hW => ablock_any F a n c l q ar L W (h.below hW) hln
  have HQU : Hid (∀ W, Below w.heap.size w W → Calls Tryd.prog 30 #[askL a n c l q ar, .int .i32 key] W (RgE ((quotesP (lnL L l) q key ar).map fun r => ((l, r.1), (l, r.2), 0)) W)) := fun W hW => aquoted_any F a n c l q ar L key W (h.below hW) hp
  have HBR : Hid (∀ (o1 o2 : Int) W, o1 ≠ o2 → Below w.heap.size w W → Calls Tryd.prog 31 #[askL a n c l q ar, .agg #[.int .i32 o1, .int .i32 o2]] W (RgE ((bracketsP L (l, q) o1 o2 ar).map fun r => (r.1, r.2, 0)) W)) := fun o1 o2 W ho hW => abracketed_any F a n c l q ar L o1 o2 W (h.below hW) hp ho hz
  have HW1 := Lib.hid hw1
  have HB1 := Lib.hid hb1
  have G1 := Lib.hid g1
  have G2 := Lib.hid g2
  have HGL := Lib.hid (hg.up hb1)
  have HR := Lib.hid hR
  clear h hl hp hln hz hR hw1 hb1 g1 g2 hsz hg
  have hkeys : key = 119 ∨ key = 87 ∨ key = 34 ∨ key = 39 ∨ key = 96 ∨ key = 112 ∨ key = 40 ∨ key = 41 ∨ key = 98 ∨ key = 91 ∨ key = 93 ∨ key = 123 ∨ key = 125 ∨ key = 66 ∨ key = 60 ∨ key = 62 ∨ (key ≠ 119 ∧ key ≠ 87 ∧ key ≠ 34 ∧ key ≠ 39 ∧ key ≠ 96 ∧ key ≠ 112 ∧ key ≠ 40 ∧ key ≠ 41 ∧ key ≠ 98 ∧ key ≠ 91 ∧ key ≠ 93 ∧ key ≠ 123 ∧ key ≠ 125 ∧ key ≠ 66 ∧ key ≠ 60 ∧ key ≠ 62) := by omega
  rcases hkeys with rfl | rfl | rfl | rfl | rfl | rfl | rfl | rfl | rfl | rfl | rfl | rfl | rfl | rfl | rfl | rfl | ⟨k1, k2, k3, k4, k5, k6, k7, k8, k9, k10, k11, k12, k13, k14, k15, k16⟩
  · have hrr := HR.out
    rw [fdP_w (key := 119) (by omega), show ((119 : Int) == 87) = false from rfl] at hrr
    have HRR := Lib.hid hrr
    clear hrr
    go_enter Tryd.func19, Tryd.ntmps19
    go_upto_region 1 with fail
    rw [HW1.out]
    go_wp2_with (go_at_call 28; refine (HWO.out false _ HB1.out).mono ?_; rintro e w7 ⟨c1, c2, c3, c4, c5, ck, rfl, hck, hb7⟩; obtain ⟨r0, r1, r2, r3, r4, rf0, rf1, rf2, rf3, rf4⟩ := row5 (keepO G2.out hb7); have HCK := Lib.hid hck; have HB7 : Hid (Below w.heap.size w w7) := btr HB1.out hb7; clear hck hb7)
    refine bodyPost_ret (v := .tuple #[regL c1 c2 c3 c4 c5, .bool ck]) ?_ rfl ⟨_, _, _, _, _, _, rfl, by rw [← HRR.out]; exact HCK.out, ?_⟩
    · rw [results_ct rfl]
      go_simp
    · have h2 := HB7.out
      (repeat' (first | with_reducible exact h2 | omega | with_reducible refine setCell_below ?_ _ _ _ ?_))
  · have hrr := HR.out
    rw [fdP_w (key := 87) (by omega), show ((87 : Int) == 87) = true from rfl] at hrr
    have HRR := Lib.hid hrr
    clear hrr
    go_enter Tryd.func19, Tryd.ntmps19
    go_upto_region 1 with fail
    rw [HW1.out]
    go_wp2_with (go_at_call 28; refine (HWO.out true _ HB1.out).mono ?_; rintro e w7 ⟨c1, c2, c3, c4, c5, ck, rfl, hck, hb7⟩; obtain ⟨r0, r1, r2, r3, r4, rf0, rf1, rf2, rf3, rf4⟩ := row5 (keepO G2.out hb7); have HCK := Lib.hid hck; have HB7 : Hid (Below w.heap.size w w7) := btr HB1.out hb7; clear hck hb7)
    refine bodyPost_ret (v := .tuple #[regL c1 c2 c3 c4 c5, .bool ck]) ?_ rfl ⟨_, _, _, _, _, _, rfl, by rw [← HRR.out]; exact HCK.out, ?_⟩
    · rw [results_ct rfl]
      go_simp
    · have h2 := HB7.out
      (repeat' (first | with_reducible exact h2 | omega | with_reducible refine setCell_below ?_ _ _ _ ?_))
  · have hrr := HR.out
    rw [fdP_q (key := 34) (by omega)] at hrr
    have HRR := Lib.hid hrr
    clear hrr
    go_enter Tryd.func19, Tryd.ntmps19
    go_upto_region 1 with fail
    rw [HW1.out]
    go_wp2_with (go_at_call 30; refine (HQU.out _ HB1.out).mono ?_; rintro e w7 ⟨c1, c2, c3, c4, c5, ck, rfl, hck, hb7⟩; obtain ⟨r0, r1, r2, r3, r4, rf0, rf1, rf2, rf3, rf4⟩ := row5 (keepO G2.out hb7); have HCK := Lib.hid hck; have HB7 : Hid (Below w.heap.size w w7) := btr HB1.out hb7; clear hck hb7)
    refine bodyPost_ret (v := .tuple #[regL c1 c2 c3 c4 c5, .bool ck]) ?_ rfl ⟨_, _, _, _, _, _, rfl, by rw [← HRR.out]; exact HCK.out, ?_⟩
    · rw [results_ct rfl]
      go_simp
    · have h2 := HB7.out
      (repeat' (first | with_reducible exact h2 | omega | with_reducible refine setCell_below ?_ _ _ _ ?_))
  · have hrr := HR.out
    rw [fdP_q (key := 39) (by omega)] at hrr
    have HRR := Lib.hid hrr
    clear hrr
    go_enter Tryd.func19, Tryd.ntmps19
    go_upto_region 1 with fail
    rw [HW1.out]
    go_wp2_with (go_at_call 30; refine (HQU.out _ HB1.out).mono ?_; rintro e w7 ⟨c1, c2, c3, c4, c5, ck, rfl, hck, hb7⟩; obtain ⟨r0, r1, r2, r3, r4, rf0, rf1, rf2, rf3, rf4⟩ := row5 (keepO G2.out hb7); have HCK := Lib.hid hck; have HB7 : Hid (Below w.heap.size w w7) := btr HB1.out hb7; clear hck hb7)
    refine bodyPost_ret (v := .tuple #[regL c1 c2 c3 c4 c5, .bool ck]) ?_ rfl ⟨_, _, _, _, _, _, rfl, by rw [← HRR.out]; exact HCK.out, ?_⟩
    · rw [results_ct rfl]
      go_simp
    · have h2 := HB7.out
      (repeat' (first | with_reducible exact h2 | omega | with_reducible refine setCell_below ?_ _ _ _ ?_))
  · have hrr := HR.out
    rw [fdP_q (key := 96) (by omega)] at hrr
    have HRR := Lib.hid hrr
    clear hrr
    go_enter Tryd.func19, Tryd.ntmps19
    go_upto_region 1 with fail
    rw [HW1.out]
    go_wp2_with (go_at_call 30; refine (HQU.out _ HB1.out).mono ?_; rintro e w7 ⟨c1, c2, c3, c4, c5, ck, rfl, hck, hb7⟩; obtain ⟨r0, r1, r2, r3, r4, rf0, rf1, rf2, rf3, rf4⟩ := row5 (keepO G2.out hb7); have HCK := Lib.hid hck; have HB7 : Hid (Below w.heap.size w w7) := btr HB1.out hb7; clear hck hb7)
    refine bodyPost_ret (v := .tuple #[regL c1 c2 c3 c4 c5, .bool ck]) ?_ rfl ⟨_, _, _, _, _, _, rfl, by rw [← HRR.out]; exact HCK.out, ?_⟩
    · rw [results_ct rfl]
      go_simp
    · have h2 := HB7.out
      (repeat' (first | with_reducible exact h2 | omega | with_reducible refine setCell_below ?_ _ _ _ ?_))
  · have hrr := HR.out
    rw [fdP_p] at hrr
    have HRR := Lib.hid hrr
    clear hrr
    go_enter Tryd.func19, Tryd.ntmps19
    go_upto_region 1 with fail
    rw [HW1.out]
    go_wp2_with (go_at_call 29; refine (HBL.out _ HB1.out).mono ?_; rintro e w7 ⟨c1, c2, c3, c4, c5, ck, rfl, hck, hb7⟩; obtain ⟨r0, r1, r2, r3, r4, rf0, rf1, rf2, rf3, rf4⟩ := row5 (keepO G2.out hb7); have HCK := Lib.hid hck; have HB7 : Hid (Below w.heap.size w w7) := btr HB1.out hb7; clear hck hb7)
    refine bodyPost_ret (v := .tuple #[regL c1 c2 c3 c4 c5, .bool ck]) ?_ rfl ⟨_, _, _, _, _, _, rfl, by rw [← HRR.out]; exact HCK.out, ?_⟩
    · rw [results_ct rfl]
      go_simp
    · have h2 := HB7.out
      (repeat' (first | with_reducible exact h2 | omega | with_reducible refine setCell_below ?_ _ _ _ ?_))
  · have hrr := HR.out
    rw [fdP_br (key := 40) (by omega) (by omega) (by omega) (by omega) (by omega) (by omega), show brk 40 = some (40, 41) by decide] at hrr
    simp only at hrr
    have HRR := Lib.hid hrr
    have hs0 : FnS w (askO a n c l q ar) w1 := ⟨HB1.out, G1.out, HGL.out⟩
    clear hrr x0 x1 x2 x3
    go_enter Tryd.func19, Tryd.ntmps19
    go_upto_region 1 with fail
    rw [HW1.out]
    go_upto_region 26 with fail
    refine wp_region_held (S := FnS w (askO a n c l q ar)) (by kernel_rfl) ?_
    change wpAnyH _ _ _ _ _ _ _ _ (World.drew _)
    have hHA : (FnS w (askO a n c l q ar)) (World.drew w1) := hs0.drew
    refine takeH 0 (some 53) (v := ?_) rfl rfl (by kernel_rfl) (by kernel_rfl) (by kernel_rfl) (fun _ _ _ h => h) (Or.inl ⟨by kernel_rfl, ?_⟩) hHA ?_
    rotate_left
    · intro w' hSw
      obtain ⟨⟨s0, s1, s2, s3⟩, t0, t1, t2, t3, t4, t5, t6, t7⟩ := hSw.cells
      go_simp
      try with_reducible rfl
    (try simp only [Act.put, List.setIfInBounds_toArray, List.set_cons_zero, List.set_cons_succ])
    refine takeH 1 (some 54) (v := ?_) rfl rfl (by kernel_rfl) (by kernel_rfl) (by kernel_rfl) (fun _ _ _ h => h) (Or.inl ⟨by kernel_rfl, ?_⟩) hHA ?_
    rotate_left
    · intro w' hSw
      obtain ⟨⟨s0, s1, s2, s3⟩, t0, t1, t2, t3, t4, t5, t6, t7⟩ := hSw.cells
      go_simp
      try with_reducible rfl
    (try simp only [Act.put, List.setIfInBounds_toArray, List.set_cons_zero, List.set_cons_succ])
    refine takeH 2 (some 55) (v := ?_) rfl rfl (by kernel_rfl) (by kernel_rfl) (by kernel_rfl) (fun _ _ _ h => h) (Or.inl ⟨by kernel_rfl, ?_⟩) hHA ?_
    rotate_left
    · intro w' hSw
      obtain ⟨⟨s0, s1, s2, s3⟩, t0, t1, t2, t3, t4, t5, t6, t7⟩ := hSw.cells
      go_simp
      try with_reducible rfl
    (try simp only [Act.put, List.setIfInBounds_toArray, List.set_cons_zero, List.set_cons_succ])
    refine takeH 3 (some 56) (v := ?_) rfl rfl (by kernel_rfl) (by kernel_rfl) (by kernel_rfl) (fun _ _ _ h => h) (Or.inl ⟨by kernel_rfl, ?_⟩) hHA ?_
    rotate_left
    · intro w' hSw
      obtain ⟨⟨s0, s1, s2, s3⟩, t0, t1, t2, t3, t4, t5, t6, t7⟩ := hSw.cells
      go_simp
      try with_reducible rfl
    (try simp only [Act.put, List.setIfInBounds_toArray, List.set_cons_zero, List.set_cons_succ])
    refine callH 4 (some 57) (f := 31) (args := ?_) rfl rfl (by kernel_rfl) (by kernel_rfl) ?_ ?_
    rotate_left
    · go_simp
      try with_reducible rfl
    refine (HBR.out 40 41 _ (by decide) hHA.1).mono ?_
    rintro e vA1 ⟨z1, z2, z3, z4, z5, zk, rfl, hz, hbA1⟩
    have HZ := Lib.hid hz
    clear hz
    have hg3 := keepO (W := w1.drew) G2.out hbA1
    obtain ⟨r0, r1, r2, r3, r4, rf0, rf1, rf2, rf3, rf4⟩ := row5 hg3
    have hHA1 := hHA.below hbA1
    refine ⟨_, rfl, hHA1, ?_⟩
    (try simp only [Act.put, List.setIfInBounds_toArray, List.set_cons_zero, List.set_cons_succ])
    refine takeH 5 (some 58) (v := ?_) rfl rfl (by kernel_rfl) (by kernel_rfl) (by kernel_rfl) (fun _ _ _ h => h) (Or.inl ⟨by kernel_rfl, ?_⟩) hHA1 ?_
    rotate_left
    · intro w' hSw
      obtain ⟨⟨s0, s1, s2, s3⟩, t0, t1, t2, t3, t4, t5, t6, t7⟩ := hSw.cells
      go_simp
      try with_reducible rfl
    (try simp only [Act.put, List.setIfInBounds_toArray, List.set_cons_zero, List.set_cons_succ])
    refine takeH 6 (some 59) (v := ?_) rfl rfl (by kernel_rfl) (by kernel_rfl) (by kernel_rfl) (fun _ _ _ h => h) (Or.inl ⟨by kernel_rfl, ?_⟩) hHA1 ?_
    rotate_left
    · intro w' hSw
      obtain ⟨⟨s0, s1, s2, s3⟩, t0, t1, t2, t3, t4, t5, t6, t7⟩ := hSw.cells
      go_simp
      try with_reducible rfl
    (try simp only [Act.put, List.setIfInBounds_toArray, List.set_cons_zero, List.set_cons_succ])
    have hHA12 : (FnS w (askO a n c l q ar)) ((((((vA1.setCell ⟨w.heap.size + 1, 0, none⟩ (.int .i64 z1)).setCell ⟨w.heap.size + 1, 1, none⟩ (.int .i64 z2)).setCell ⟨w.heap.size + 1, 2, none⟩ (.int .i64 z3)).setCell ⟨w.heap.size + 1, 3, none⟩ (.int .i64 z4)).setCell ⟨w.heap.size + 1, 4, none⟩ (.int .i64 z5))) := ((((hHA1.put hlt0 0 _).put hlt0 1 _).put hlt0 2 _).put hlt0 3 _).put hlt0 4 _
    refine storeH 7 (w' := (((((vA1.setCell ⟨w.heap.size + 1, 0, none⟩ (.int .i64 z1)).setCell ⟨w.heap.size + 1, 1, none⟩ (.int .i64 z2)).setCell ⟨w.heap.size + 1, 2, none⟩ (.int .i64 z3)).setCell ⟨w.heap.size + 1, 3, none⟩ (.int .i64 z4)).setCell ⟨w.heap.size + 1, 4, none⟩ (.int .i64 z5))) rfl rfl (by kernel_rfl) (by kernel_rfl) ?_ hHA12 ?_
    · go_simp
      try rfl
    (try simp only [Act.put, List.setIfInBounds_toArray, List.set_cons_zero, List.set_cons_succ])
    have HEND := hHA12
    refine takeH 8 (some 5) (v := ?_) rfl rfl (by kernel_rfl) (by kernel_rfl) (by kernel_rfl) (fun _ _ _ h => h) (Or.inl ⟨by kernel_rfl, ?_⟩) hHA12 ?_
    rotate_left
    · intro w' hSw
      obtain ⟨⟨s0, s1, s2, s3⟩, t0, t1, t2, t3, t4, t5, t6, t7⟩ := hSw.cells
      go_simp
      try with_reducible rfl
    (try simp only [Act.put, List.setIfInBounds_toArray, List.set_cons_zero, List.set_cons_succ])
    refine wpAnyH_done (by kernel_rfl) ?_ _
    clear r0 r1 r2 r3 r4 rf0 rf1 rf2 rf3 rf4
    obtain ⟨e0', e1', e2', e3', e4', -⟩ := row5 (heap_set (heap_set (heap_set (heap_set (heap_set hg3 0 (.int .i64 z1)) 1 (.int .i64 z2)) 2 (.int .i64 z3)) 3 (.int .i64 z4)) 4 (.int .i64 z5))
    go_wp2_with fail
    refine bodyPost_ret (v := .tuple #[regL z1 z2 z3 z4 z5, .bool zk]) ?_ rfl ⟨_, _, _, _, _, _, rfl, by rw [← HRR.out]; exact HZ.out, HEND.1⟩
    rw [results_ct rfl]
    go_simp
  · have hrr := HR.out
    rw [fdP_br (key := 41) (by omega) (by omega) (by omega) (by omega) (by omega) (by omega), show brk 41 = some (40, 41) by decide] at hrr
    simp only at hrr
    have HRR := Lib.hid hrr
    have hs0 : FnS w (askO a n c l q ar) w1 := ⟨HB1.out, G1.out, HGL.out⟩
    clear hrr x0 x1 x2 x3
    go_enter Tryd.func19, Tryd.ntmps19
    go_upto_region 1 with fail
    rw [HW1.out]
    go_upto_region 26 with fail
    refine wp_region_held (S := FnS w (askO a n c l q ar)) (by kernel_rfl) ?_
    change wpAnyH _ _ _ _ _ _ _ _ (World.drew _)
    have hHA : (FnS w (askO a n c l q ar)) (World.drew w1) := hs0.drew
    refine takeH 0 (some 53) (v := ?_) rfl rfl (by kernel_rfl) (by kernel_rfl) (by kernel_rfl) (fun _ _ _ h => h) (Or.inl ⟨by kernel_rfl, ?_⟩) hHA ?_
    rotate_left
    · intro w' hSw
      obtain ⟨⟨s0, s1, s2, s3⟩, t0, t1, t2, t3, t4, t5, t6, t7⟩ := hSw.cells
      go_simp
      try with_reducible rfl
    (try simp only [Act.put, List.setIfInBounds_toArray, List.set_cons_zero, List.set_cons_succ])
    refine takeH 1 (some 54) (v := ?_) rfl rfl (by kernel_rfl) (by kernel_rfl) (by kernel_rfl) (fun _ _ _ h => h) (Or.inl ⟨by kernel_rfl, ?_⟩) hHA ?_
    rotate_left
    · intro w' hSw
      obtain ⟨⟨s0, s1, s2, s3⟩, t0, t1, t2, t3, t4, t5, t6, t7⟩ := hSw.cells
      go_simp
      try with_reducible rfl
    (try simp only [Act.put, List.setIfInBounds_toArray, List.set_cons_zero, List.set_cons_succ])
    refine takeH 2 (some 55) (v := ?_) rfl rfl (by kernel_rfl) (by kernel_rfl) (by kernel_rfl) (fun _ _ _ h => h) (Or.inl ⟨by kernel_rfl, ?_⟩) hHA ?_
    rotate_left
    · intro w' hSw
      obtain ⟨⟨s0, s1, s2, s3⟩, t0, t1, t2, t3, t4, t5, t6, t7⟩ := hSw.cells
      go_simp
      try with_reducible rfl
    (try simp only [Act.put, List.setIfInBounds_toArray, List.set_cons_zero, List.set_cons_succ])
    refine takeH 3 (some 56) (v := ?_) rfl rfl (by kernel_rfl) (by kernel_rfl) (by kernel_rfl) (fun _ _ _ h => h) (Or.inl ⟨by kernel_rfl, ?_⟩) hHA ?_
    rotate_left
    · intro w' hSw
      obtain ⟨⟨s0, s1, s2, s3⟩, t0, t1, t2, t3, t4, t5, t6, t7⟩ := hSw.cells
      go_simp
      try with_reducible rfl
    (try simp only [Act.put, List.setIfInBounds_toArray, List.set_cons_zero, List.set_cons_succ])
    refine callH 4 (some 57) (f := 31) (args := ?_) rfl rfl (by kernel_rfl) (by kernel_rfl) ?_ ?_
    rotate_left
    · go_simp
      try with_reducible rfl
    refine (HBR.out 40 41 _ (by decide) hHA.1).mono ?_
    rintro e vA1 ⟨z1, z2, z3, z4, z5, zk, rfl, hz, hbA1⟩
    have HZ := Lib.hid hz
    clear hz
    have hg3 := keepO (W := w1.drew) G2.out hbA1
    obtain ⟨r0, r1, r2, r3, r4, rf0, rf1, rf2, rf3, rf4⟩ := row5 hg3
    have hHA1 := hHA.below hbA1
    refine ⟨_, rfl, hHA1, ?_⟩
    (try simp only [Act.put, List.setIfInBounds_toArray, List.set_cons_zero, List.set_cons_succ])
    refine takeH 5 (some 58) (v := ?_) rfl rfl (by kernel_rfl) (by kernel_rfl) (by kernel_rfl) (fun _ _ _ h => h) (Or.inl ⟨by kernel_rfl, ?_⟩) hHA1 ?_
    rotate_left
    · intro w' hSw
      obtain ⟨⟨s0, s1, s2, s3⟩, t0, t1, t2, t3, t4, t5, t6, t7⟩ := hSw.cells
      go_simp
      try with_reducible rfl
    (try simp only [Act.put, List.setIfInBounds_toArray, List.set_cons_zero, List.set_cons_succ])
    refine takeH 6 (some 59) (v := ?_) rfl rfl (by kernel_rfl) (by kernel_rfl) (by kernel_rfl) (fun _ _ _ h => h) (Or.inl ⟨by kernel_rfl, ?_⟩) hHA1 ?_
    rotate_left
    · intro w' hSw
      obtain ⟨⟨s0, s1, s2, s3⟩, t0, t1, t2, t3, t4, t5, t6, t7⟩ := hSw.cells
      go_simp
      try with_reducible rfl
    (try simp only [Act.put, List.setIfInBounds_toArray, List.set_cons_zero, List.set_cons_succ])
    have hHA12 : (FnS w (askO a n c l q ar)) ((((((vA1.setCell ⟨w.heap.size + 1, 0, none⟩ (.int .i64 z1)).setCell ⟨w.heap.size + 1, 1, none⟩ (.int .i64 z2)).setCell ⟨w.heap.size + 1, 2, none⟩ (.int .i64 z3)).setCell ⟨w.heap.size + 1, 3, none⟩ (.int .i64 z4)).setCell ⟨w.heap.size + 1, 4, none⟩ (.int .i64 z5))) := ((((hHA1.put hlt0 0 _).put hlt0 1 _).put hlt0 2 _).put hlt0 3 _).put hlt0 4 _
    refine storeH 7 (w' := (((((vA1.setCell ⟨w.heap.size + 1, 0, none⟩ (.int .i64 z1)).setCell ⟨w.heap.size + 1, 1, none⟩ (.int .i64 z2)).setCell ⟨w.heap.size + 1, 2, none⟩ (.int .i64 z3)).setCell ⟨w.heap.size + 1, 3, none⟩ (.int .i64 z4)).setCell ⟨w.heap.size + 1, 4, none⟩ (.int .i64 z5))) rfl rfl (by kernel_rfl) (by kernel_rfl) ?_ hHA12 ?_
    · go_simp
      try rfl
    (try simp only [Act.put, List.setIfInBounds_toArray, List.set_cons_zero, List.set_cons_succ])
    have HEND := hHA12
    refine takeH 8 (some 5) (v := ?_) rfl rfl (by kernel_rfl) (by kernel_rfl) (by kernel_rfl) (fun _ _ _ h => h) (Or.inl ⟨by kernel_rfl, ?_⟩) hHA12 ?_
    rotate_left
    · intro w' hSw
      obtain ⟨⟨s0, s1, s2, s3⟩, t0, t1, t2, t3, t4, t5, t6, t7⟩ := hSw.cells
      go_simp
      try with_reducible rfl
    (try simp only [Act.put, List.setIfInBounds_toArray, List.set_cons_zero, List.set_cons_succ])
    refine wpAnyH_done (by kernel_rfl) ?_ _
    clear r0 r1 r2 r3 r4 rf0 rf1 rf2 rf3 rf4
    obtain ⟨e0', e1', e2', e3', e4', -⟩ := row5 (heap_set (heap_set (heap_set (heap_set (heap_set hg3 0 (.int .i64 z1)) 1 (.int .i64 z2)) 2 (.int .i64 z3)) 3 (.int .i64 z4)) 4 (.int .i64 z5))
    go_wp2_with fail
    refine bodyPost_ret (v := .tuple #[regL z1 z2 z3 z4 z5, .bool zk]) ?_ rfl ⟨_, _, _, _, _, _, rfl, by rw [← HRR.out]; exact HZ.out, HEND.1⟩
    rw [results_ct rfl]
    go_simp
  · have hrr := HR.out
    rw [fdP_br (key := 98) (by omega) (by omega) (by omega) (by omega) (by omega) (by omega), show brk 98 = some (40, 41) by decide] at hrr
    simp only at hrr
    have HRR := Lib.hid hrr
    have hs0 : FnS w (askO a n c l q ar) w1 := ⟨HB1.out, G1.out, HGL.out⟩
    clear hrr x0 x1 x2 x3
    go_enter Tryd.func19, Tryd.ntmps19
    go_upto_region 1 with fail
    rw [HW1.out]
    go_upto_region 26 with fail
    refine wp_region_held (S := FnS w (askO a n c l q ar)) (by kernel_rfl) ?_
    change wpAnyH _ _ _ _ _ _ _ _ (World.drew _)
    have hHA : (FnS w (askO a n c l q ar)) (World.drew w1) := hs0.drew
    refine takeH 0 (some 53) (v := ?_) rfl rfl (by kernel_rfl) (by kernel_rfl) (by kernel_rfl) (fun _ _ _ h => h) (Or.inl ⟨by kernel_rfl, ?_⟩) hHA ?_
    rotate_left
    · intro w' hSw
      obtain ⟨⟨s0, s1, s2, s3⟩, t0, t1, t2, t3, t4, t5, t6, t7⟩ := hSw.cells
      go_simp
      try with_reducible rfl
    (try simp only [Act.put, List.setIfInBounds_toArray, List.set_cons_zero, List.set_cons_succ])
    refine takeH 1 (some 54) (v := ?_) rfl rfl (by kernel_rfl) (by kernel_rfl) (by kernel_rfl) (fun _ _ _ h => h) (Or.inl ⟨by kernel_rfl, ?_⟩) hHA ?_
    rotate_left
    · intro w' hSw
      obtain ⟨⟨s0, s1, s2, s3⟩, t0, t1, t2, t3, t4, t5, t6, t7⟩ := hSw.cells
      go_simp
      try with_reducible rfl
    (try simp only [Act.put, List.setIfInBounds_toArray, List.set_cons_zero, List.set_cons_succ])
    refine takeH 2 (some 55) (v := ?_) rfl rfl (by kernel_rfl) (by kernel_rfl) (by kernel_rfl) (fun _ _ _ h => h) (Or.inl ⟨by kernel_rfl, ?_⟩) hHA ?_
    rotate_left
    · intro w' hSw
      obtain ⟨⟨s0, s1, s2, s3⟩, t0, t1, t2, t3, t4, t5, t6, t7⟩ := hSw.cells
      go_simp
      try with_reducible rfl
    (try simp only [Act.put, List.setIfInBounds_toArray, List.set_cons_zero, List.set_cons_succ])
    refine takeH 3 (some 56) (v := ?_) rfl rfl (by kernel_rfl) (by kernel_rfl) (by kernel_rfl) (fun _ _ _ h => h) (Or.inl ⟨by kernel_rfl, ?_⟩) hHA ?_
    rotate_left
    · intro w' hSw
      obtain ⟨⟨s0, s1, s2, s3⟩, t0, t1, t2, t3, t4, t5, t6, t7⟩ := hSw.cells
      go_simp
      try with_reducible rfl
    (try simp only [Act.put, List.setIfInBounds_toArray, List.set_cons_zero, List.set_cons_succ])
    refine callH 4 (some 57) (f := 31) (args := ?_) rfl rfl (by kernel_rfl) (by kernel_rfl) ?_ ?_
    rotate_left
    · go_simp
      try with_reducible rfl
    refine (HBR.out 40 41 _ (by decide) hHA.1).mono ?_
    rintro e vA1 ⟨z1, z2, z3, z4, z5, zk, rfl, hz, hbA1⟩
    have HZ := Lib.hid hz
    clear hz
    have hg3 := keepO (W := w1.drew) G2.out hbA1
    obtain ⟨r0, r1, r2, r3, r4, rf0, rf1, rf2, rf3, rf4⟩ := row5 hg3
    have hHA1 := hHA.below hbA1
    refine ⟨_, rfl, hHA1, ?_⟩
    (try simp only [Act.put, List.setIfInBounds_toArray, List.set_cons_zero, List.set_cons_succ])
    refine takeH 5 (some 58) (v := ?_) rfl rfl (by kernel_rfl) (by kernel_rfl) (by kernel_rfl) (fun _ _ _ h => h) (Or.inl ⟨by kernel_rfl, ?_⟩) hHA1 ?_
    rotate_left
    · intro w' hSw
      obtain ⟨⟨s0, s1, s2, s3⟩, t0, t1, t2, t3, t4, t5, t6, t7⟩ := hSw.cells
      go_simp
      try with_reducible rfl
    (try simp only [Act.put, List.setIfInBounds_toArray, List.set_cons_zero, List.set_cons_succ])
    refine takeH 6 (some 59) (v := ?_) rfl rfl (by kernel_rfl) (by kernel_rfl) (by kernel_rfl) (fun _ _ _ h => h) (Or.inl ⟨by kernel_rfl, ?_⟩) hHA1 ?_
    rotate_left
    · intro w' hSw
      obtain ⟨⟨s0, s1, s2, s3⟩, t0, t1, t2, t3, t4, t5, t6, t7⟩ := hSw.cells
      go_simp
      try with_reducible rfl
    (try simp only [Act.put, List.setIfInBounds_toArray, List.set_cons_zero, List.set_cons_succ])
    have hHA12 : (FnS w (askO a n c l q ar)) ((((((vA1.setCell ⟨w.heap.size + 1, 0, none⟩ (.int .i64 z1)).setCell ⟨w.heap.size + 1, 1, none⟩ (.int .i64 z2)).setCell ⟨w.heap.size + 1, 2, none⟩ (.int .i64 z3)).setCell ⟨w.heap.size + 1, 3, none⟩ (.int .i64 z4)).setCell ⟨w.heap.size + 1, 4, none⟩ (.int .i64 z5))) := ((((hHA1.put hlt0 0 _).put hlt0 1 _).put hlt0 2 _).put hlt0 3 _).put hlt0 4 _
    refine storeH 7 (w' := (((((vA1.setCell ⟨w.heap.size + 1, 0, none⟩ (.int .i64 z1)).setCell ⟨w.heap.size + 1, 1, none⟩ (.int .i64 z2)).setCell ⟨w.heap.size + 1, 2, none⟩ (.int .i64 z3)).setCell ⟨w.heap.size + 1, 3, none⟩ (.int .i64 z4)).setCell ⟨w.heap.size + 1, 4, none⟩ (.int .i64 z5))) rfl rfl (by kernel_rfl) (by kernel_rfl) ?_ hHA12 ?_
    · go_simp
      try rfl
    (try simp only [Act.put, List.setIfInBounds_toArray, List.set_cons_zero, List.set_cons_succ])
    have HEND := hHA12
    refine takeH 8 (some 5) (v := ?_) rfl rfl (by kernel_rfl) (by kernel_rfl) (by kernel_rfl) (fun _ _ _ h => h) (Or.inl ⟨by kernel_rfl, ?_⟩) hHA12 ?_
    rotate_left
    · intro w' hSw
      obtain ⟨⟨s0, s1, s2, s3⟩, t0, t1, t2, t3, t4, t5, t6, t7⟩ := hSw.cells
      go_simp
      try with_reducible rfl
    (try simp only [Act.put, List.setIfInBounds_toArray, List.set_cons_zero, List.set_cons_succ])
    refine wpAnyH_done (by kernel_rfl) ?_ _
    clear r0 r1 r2 r3 r4 rf0 rf1 rf2 rf3 rf4
    obtain ⟨e0', e1', e2', e3', e4', -⟩ := row5 (heap_set (heap_set (heap_set (heap_set (heap_set hg3 0 (.int .i64 z1)) 1 (.int .i64 z2)) 2 (.int .i64 z3)) 3 (.int .i64 z4)) 4 (.int .i64 z5))
    go_wp2_with fail
    refine bodyPost_ret (v := .tuple #[regL z1 z2 z3 z4 z5, .bool zk]) ?_ rfl ⟨_, _, _, _, _, _, rfl, by rw [← HRR.out]; exact HZ.out, HEND.1⟩
    rw [results_ct rfl]
    go_simp
  · have hrr := HR.out
    rw [fdP_br (key := 91) (by omega) (by omega) (by omega) (by omega) (by omega) (by omega), show brk 91 = some (91, 93) by decide] at hrr
    simp only at hrr
    have HRR := Lib.hid hrr
    have hs0 : FnS w (askO a n c l q ar) w1 := ⟨HB1.out, G1.out, HGL.out⟩
    clear hrr x0 x1 x2 x3
    go_enter Tryd.func19, Tryd.ntmps19
    go_upto_region 1 with fail
    rw [HW1.out]
    go_upto_region 26 with fail
    refine wp_region_held (S := FnS w (askO a n c l q ar)) (by kernel_rfl) ?_
    change wpAnyH _ _ _ _ _ _ _ _ (World.drew _)
    have hHA : (FnS w (askO a n c l q ar)) (World.drew w1) := hs0.drew
    refine takeH 0 (some 53) (v := ?_) rfl rfl (by kernel_rfl) (by kernel_rfl) (by kernel_rfl) (fun _ _ _ h => h) (Or.inl ⟨by kernel_rfl, ?_⟩) hHA ?_
    rotate_left
    · intro w' hSw
      obtain ⟨⟨s0, s1, s2, s3⟩, t0, t1, t2, t3, t4, t5, t6, t7⟩ := hSw.cells
      go_simp
      try with_reducible rfl
    (try simp only [Act.put, List.setIfInBounds_toArray, List.set_cons_zero, List.set_cons_succ])
    refine takeH 1 (some 54) (v := ?_) rfl rfl (by kernel_rfl) (by kernel_rfl) (by kernel_rfl) (fun _ _ _ h => h) (Or.inl ⟨by kernel_rfl, ?_⟩) hHA ?_
    rotate_left
    · intro w' hSw
      obtain ⟨⟨s0, s1, s2, s3⟩, t0, t1, t2, t3, t4, t5, t6, t7⟩ := hSw.cells
      go_simp
      try with_reducible rfl
    (try simp only [Act.put, List.setIfInBounds_toArray, List.set_cons_zero, List.set_cons_succ])
    refine takeH 2 (some 55) (v := ?_) rfl rfl (by kernel_rfl) (by kernel_rfl) (by kernel_rfl) (fun _ _ _ h => h) (Or.inl ⟨by kernel_rfl, ?_⟩) hHA ?_
    rotate_left
    · intro w' hSw
      obtain ⟨⟨s0, s1, s2, s3⟩, t0, t1, t2, t3, t4, t5, t6, t7⟩ := hSw.cells
      go_simp
      try with_reducible rfl
    (try simp only [Act.put, List.setIfInBounds_toArray, List.set_cons_zero, List.set_cons_succ])
    refine takeH 3 (some 56) (v := ?_) rfl rfl (by kernel_rfl) (by kernel_rfl) (by kernel_rfl) (fun _ _ _ h => h) (Or.inl ⟨by kernel_rfl, ?_⟩) hHA ?_
    rotate_left
    · intro w' hSw
      obtain ⟨⟨s0, s1, s2, s3⟩, t0, t1, t2, t3, t4, t5, t6, t7⟩ := hSw.cells
      go_simp
      try with_reducible rfl
    (try simp only [Act.put, List.setIfInBounds_toArray, List.set_cons_zero, List.set_cons_succ])
    refine callH 4 (some 57) (f := 31) (args := ?_) rfl rfl (by kernel_rfl) (by kernel_rfl) ?_ ?_
    rotate_left
    · go_simp
      try with_reducible rfl
    refine (HBR.out 91 93 _ (by decide) hHA.1).mono ?_
    rintro e vA1 ⟨z1, z2, z3, z4, z5, zk, rfl, hz, hbA1⟩
    have HZ := Lib.hid hz
    clear hz
    have hg3 := keepO (W := w1.drew) G2.out hbA1
    obtain ⟨r0, r1, r2, r3, r4, rf0, rf1, rf2, rf3, rf4⟩ := row5 hg3
    have hHA1 := hHA.below hbA1
    refine ⟨_, rfl, hHA1, ?_⟩
    (try simp only [Act.put, List.setIfInBounds_toArray, List.set_cons_zero, List.set_cons_succ])
    refine takeH 5 (some 58) (v := ?_) rfl rfl (by kernel_rfl) (by kernel_rfl) (by kernel_rfl) (fun _ _ _ h => h) (Or.inl ⟨by kernel_rfl, ?_⟩) hHA1 ?_
    rotate_left
    · intro w' hSw
      obtain ⟨⟨s0, s1, s2, s3⟩, t0, t1, t2, t3, t4, t5, t6, t7⟩ := hSw.cells
      go_simp
      try with_reducible rfl
    (try simp only [Act.put, List.setIfInBounds_toArray, List.set_cons_zero, List.set_cons_succ])
    refine takeH 6 (some 59) (v := ?_) rfl rfl (by kernel_rfl) (by kernel_rfl) (by kernel_rfl) (fun _ _ _ h => h) (Or.inl ⟨by kernel_rfl, ?_⟩) hHA1 ?_
    rotate_left
    · intro w' hSw
      obtain ⟨⟨s0, s1, s2, s3⟩, t0, t1, t2, t3, t4, t5, t6, t7⟩ := hSw.cells
      go_simp
      try with_reducible rfl
    (try simp only [Act.put, List.setIfInBounds_toArray, List.set_cons_zero, List.set_cons_succ])
    have hHA12 : (FnS w (askO a n c l q ar)) ((((((vA1.setCell ⟨w.heap.size + 1, 0, none⟩ (.int .i64 z1)).setCell ⟨w.heap.size + 1, 1, none⟩ (.int .i64 z2)).setCell ⟨w.heap.size + 1, 2, none⟩ (.int .i64 z3)).setCell ⟨w.heap.size + 1, 3, none⟩ (.int .i64 z4)).setCell ⟨w.heap.size + 1, 4, none⟩ (.int .i64 z5))) := ((((hHA1.put hlt0 0 _).put hlt0 1 _).put hlt0 2 _).put hlt0 3 _).put hlt0 4 _
    refine storeH 7 (w' := (((((vA1.setCell ⟨w.heap.size + 1, 0, none⟩ (.int .i64 z1)).setCell ⟨w.heap.size + 1, 1, none⟩ (.int .i64 z2)).setCell ⟨w.heap.size + 1, 2, none⟩ (.int .i64 z3)).setCell ⟨w.heap.size + 1, 3, none⟩ (.int .i64 z4)).setCell ⟨w.heap.size + 1, 4, none⟩ (.int .i64 z5))) rfl rfl (by kernel_rfl) (by kernel_rfl) ?_ hHA12 ?_
    · go_simp
      try rfl
    (try simp only [Act.put, List.setIfInBounds_toArray, List.set_cons_zero, List.set_cons_succ])
    have HEND := hHA12
    refine takeH 8 (some 5) (v := ?_) rfl rfl (by kernel_rfl) (by kernel_rfl) (by kernel_rfl) (fun _ _ _ h => h) (Or.inl ⟨by kernel_rfl, ?_⟩) hHA12 ?_
    rotate_left
    · intro w' hSw
      obtain ⟨⟨s0, s1, s2, s3⟩, t0, t1, t2, t3, t4, t5, t6, t7⟩ := hSw.cells
      go_simp
      try with_reducible rfl
    (try simp only [Act.put, List.setIfInBounds_toArray, List.set_cons_zero, List.set_cons_succ])
    refine wpAnyH_done (by kernel_rfl) ?_ _
    clear r0 r1 r2 r3 r4 rf0 rf1 rf2 rf3 rf4
    obtain ⟨e0', e1', e2', e3', e4', -⟩ := row5 (heap_set (heap_set (heap_set (heap_set (heap_set hg3 0 (.int .i64 z1)) 1 (.int .i64 z2)) 2 (.int .i64 z3)) 3 (.int .i64 z4)) 4 (.int .i64 z5))
    go_wp2_with fail
    refine bodyPost_ret (v := .tuple #[regL z1 z2 z3 z4 z5, .bool zk]) ?_ rfl ⟨_, _, _, _, _, _, rfl, by rw [← HRR.out]; exact HZ.out, HEND.1⟩
    rw [results_ct rfl]
    go_simp
  · have hrr := HR.out
    rw [fdP_br (key := 93) (by omega) (by omega) (by omega) (by omega) (by omega) (by omega), show brk 93 = some (91, 93) by decide] at hrr
    simp only at hrr
    have HRR := Lib.hid hrr
    have hs0 : FnS w (askO a n c l q ar) w1 := ⟨HB1.out, G1.out, HGL.out⟩
    clear hrr x0 x1 x2 x3
    go_enter Tryd.func19, Tryd.ntmps19
    go_upto_region 1 with fail
    rw [HW1.out]
    go_upto_region 26 with fail
    refine wp_region_held (S := FnS w (askO a n c l q ar)) (by kernel_rfl) ?_
    change wpAnyH _ _ _ _ _ _ _ _ (World.drew _)
    have hHA : (FnS w (askO a n c l q ar)) (World.drew w1) := hs0.drew
    refine takeH 0 (some 53) (v := ?_) rfl rfl (by kernel_rfl) (by kernel_rfl) (by kernel_rfl) (fun _ _ _ h => h) (Or.inl ⟨by kernel_rfl, ?_⟩) hHA ?_
    rotate_left
    · intro w' hSw
      obtain ⟨⟨s0, s1, s2, s3⟩, t0, t1, t2, t3, t4, t5, t6, t7⟩ := hSw.cells
      go_simp
      try with_reducible rfl
    (try simp only [Act.put, List.setIfInBounds_toArray, List.set_cons_zero, List.set_cons_succ])
    refine takeH 1 (some 54) (v := ?_) rfl rfl (by kernel_rfl) (by kernel_rfl) (by kernel_rfl) (fun _ _ _ h => h) (Or.inl ⟨by kernel_rfl, ?_⟩) hHA ?_
    rotate_left
    · intro w' hSw
      obtain ⟨⟨s0, s1, s2, s3⟩, t0, t1, t2, t3, t4, t5, t6, t7⟩ := hSw.cells
      go_simp
      try with_reducible rfl
    (try simp only [Act.put, List.setIfInBounds_toArray, List.set_cons_zero, List.set_cons_succ])
    refine takeH 2 (some 55) (v := ?_) rfl rfl (by kernel_rfl) (by kernel_rfl) (by kernel_rfl) (fun _ _ _ h => h) (Or.inl ⟨by kernel_rfl, ?_⟩) hHA ?_
    rotate_left
    · intro w' hSw
      obtain ⟨⟨s0, s1, s2, s3⟩, t0, t1, t2, t3, t4, t5, t6, t7⟩ := hSw.cells
      go_simp
      try with_reducible rfl
    (try simp only [Act.put, List.setIfInBounds_toArray, List.set_cons_zero, List.set_cons_succ])
    refine takeH 3 (some 56) (v := ?_) rfl rfl (by kernel_rfl) (by kernel_rfl) (by kernel_rfl) (fun _ _ _ h => h) (Or.inl ⟨by kernel_rfl, ?_⟩) hHA ?_
    rotate_left
    · intro w' hSw
      obtain ⟨⟨s0, s1, s2, s3⟩, t0, t1, t2, t3, t4, t5, t6, t7⟩ := hSw.cells
      go_simp
      try with_reducible rfl
    (try simp only [Act.put, List.setIfInBounds_toArray, List.set_cons_zero, List.set_cons_succ])
    refine callH 4 (some 57) (f := 31) (args := ?_) rfl rfl (by kernel_rfl) (by kernel_rfl) ?_ ?_
    rotate_left
    · go_simp
      try with_reducible rfl
    refine (HBR.out 91 93 _ (by decide) hHA.1).mono ?_
    rintro e vA1 ⟨z1, z2, z3, z4, z5, zk, rfl, hz, hbA1⟩
    have HZ := Lib.hid hz
    clear hz
    have hg3 := keepO (W := w1.drew) G2.out hbA1
    obtain ⟨r0, r1, r2, r3, r4, rf0, rf1, rf2, rf3, rf4⟩ := row5 hg3
    have hHA1 := hHA.below hbA1
    refine ⟨_, rfl, hHA1, ?_⟩
    (try simp only [Act.put, List.setIfInBounds_toArray, List.set_cons_zero, List.set_cons_succ])
    refine takeH 5 (some 58) (v := ?_) rfl rfl (by kernel_rfl) (by kernel_rfl) (by kernel_rfl) (fun _ _ _ h => h) (Or.inl ⟨by kernel_rfl, ?_⟩) hHA1 ?_
    rotate_left
    · intro w' hSw
      obtain ⟨⟨s0, s1, s2, s3⟩, t0, t1, t2, t3, t4, t5, t6, t7⟩ := hSw.cells
      go_simp
      try with_reducible rfl
    (try simp only [Act.put, List.setIfInBounds_toArray, List.set_cons_zero, List.set_cons_succ])
    refine takeH 6 (some 59) (v := ?_) rfl rfl (by kernel_rfl) (by kernel_rfl) (by kernel_rfl) (fun _ _ _ h => h) (Or.inl ⟨by kernel_rfl, ?_⟩) hHA1 ?_
    rotate_left
    · intro w' hSw
      obtain ⟨⟨s0, s1, s2, s3⟩, t0, t1, t2, t3, t4, t5, t6, t7⟩ := hSw.cells
      go_simp
      try with_reducible rfl
    (try simp only [Act.put, List.setIfInBounds_toArray, List.set_cons_zero, List.set_cons_succ])
    have hHA12 : (FnS w (askO a n c l q ar)) ((((((vA1.setCell ⟨w.heap.size + 1, 0, none⟩ (.int .i64 z1)).setCell ⟨w.heap.size + 1, 1, none⟩ (.int .i64 z2)).setCell ⟨w.heap.size + 1, 2, none⟩ (.int .i64 z3)).setCell ⟨w.heap.size + 1, 3, none⟩ (.int .i64 z4)).setCell ⟨w.heap.size + 1, 4, none⟩ (.int .i64 z5))) := ((((hHA1.put hlt0 0 _).put hlt0 1 _).put hlt0 2 _).put hlt0 3 _).put hlt0 4 _
    refine storeH 7 (w' := (((((vA1.setCell ⟨w.heap.size + 1, 0, none⟩ (.int .i64 z1)).setCell ⟨w.heap.size + 1, 1, none⟩ (.int .i64 z2)).setCell ⟨w.heap.size + 1, 2, none⟩ (.int .i64 z3)).setCell ⟨w.heap.size + 1, 3, none⟩ (.int .i64 z4)).setCell ⟨w.heap.size + 1, 4, none⟩ (.int .i64 z5))) rfl rfl (by kernel_rfl) (by kernel_rfl) ?_ hHA12 ?_
    · go_simp
      try rfl
    (try simp only [Act.put, List.setIfInBounds_toArray, List.set_cons_zero, List.set_cons_succ])
    have HEND := hHA12
    refine takeH 8 (some 5) (v := ?_) rfl rfl (by kernel_rfl) (by kernel_rfl) (by kernel_rfl) (fun _ _ _ h => h) (Or.inl ⟨by kernel_rfl, ?_⟩) hHA12 ?_
    rotate_left
    · intro w' hSw
      obtain ⟨⟨s0, s1, s2, s3⟩, t0, t1, t2, t3, t4, t5, t6, t7⟩ := hSw.cells
      go_simp
      try with_reducible rfl
    (try simp only [Act.put, List.setIfInBounds_toArray, List.set_cons_zero, List.set_cons_succ])
    refine wpAnyH_done (by kernel_rfl) ?_ _
    clear r0 r1 r2 r3 r4 rf0 rf1 rf2 rf3 rf4
    obtain ⟨e0', e1', e2', e3', e4', -⟩ := row5 (heap_set (heap_set (heap_set (heap_set (heap_set hg3 0 (.int .i64 z1)) 1 (.int .i64 z2)) 2 (.int .i64 z3)) 3 (.int .i64 z4)) 4 (.int .i64 z5))
    go_wp2_with fail
    refine bodyPost_ret (v := .tuple #[regL z1 z2 z3 z4 z5, .bool zk]) ?_ rfl ⟨_, _, _, _, _, _, rfl, by rw [← HRR.out]; exact HZ.out, HEND.1⟩
    rw [results_ct rfl]
    go_simp
  · have hrr := HR.out
    rw [fdP_br (key := 123) (by omega) (by omega) (by omega) (by omega) (by omega) (by omega), show brk 123 = some (123, 125) by decide] at hrr
    simp only at hrr
    have HRR := Lib.hid hrr
    have hs0 : FnS w (askO a n c l q ar) w1 := ⟨HB1.out, G1.out, HGL.out⟩
    clear hrr x0 x1 x2 x3
    go_enter Tryd.func19, Tryd.ntmps19
    go_upto_region 1 with fail
    rw [HW1.out]
    go_upto_region 26 with fail
    refine wp_region_held (S := FnS w (askO a n c l q ar)) (by kernel_rfl) ?_
    change wpAnyH _ _ _ _ _ _ _ _ (World.drew _)
    have hHA : (FnS w (askO a n c l q ar)) (World.drew w1) := hs0.drew
    refine takeH 0 (some 53) (v := ?_) rfl rfl (by kernel_rfl) (by kernel_rfl) (by kernel_rfl) (fun _ _ _ h => h) (Or.inl ⟨by kernel_rfl, ?_⟩) hHA ?_
    rotate_left
    · intro w' hSw
      obtain ⟨⟨s0, s1, s2, s3⟩, t0, t1, t2, t3, t4, t5, t6, t7⟩ := hSw.cells
      go_simp
      try with_reducible rfl
    (try simp only [Act.put, List.setIfInBounds_toArray, List.set_cons_zero, List.set_cons_succ])
    refine takeH 1 (some 54) (v := ?_) rfl rfl (by kernel_rfl) (by kernel_rfl) (by kernel_rfl) (fun _ _ _ h => h) (Or.inl ⟨by kernel_rfl, ?_⟩) hHA ?_
    rotate_left
    · intro w' hSw
      obtain ⟨⟨s0, s1, s2, s3⟩, t0, t1, t2, t3, t4, t5, t6, t7⟩ := hSw.cells
      go_simp
      try with_reducible rfl
    (try simp only [Act.put, List.setIfInBounds_toArray, List.set_cons_zero, List.set_cons_succ])
    refine takeH 2 (some 55) (v := ?_) rfl rfl (by kernel_rfl) (by kernel_rfl) (by kernel_rfl) (fun _ _ _ h => h) (Or.inl ⟨by kernel_rfl, ?_⟩) hHA ?_
    rotate_left
    · intro w' hSw
      obtain ⟨⟨s0, s1, s2, s3⟩, t0, t1, t2, t3, t4, t5, t6, t7⟩ := hSw.cells
      go_simp
      try with_reducible rfl
    (try simp only [Act.put, List.setIfInBounds_toArray, List.set_cons_zero, List.set_cons_succ])
    refine takeH 3 (some 56) (v := ?_) rfl rfl (by kernel_rfl) (by kernel_rfl) (by kernel_rfl) (fun _ _ _ h => h) (Or.inl ⟨by kernel_rfl, ?_⟩) hHA ?_
    rotate_left
    · intro w' hSw
      obtain ⟨⟨s0, s1, s2, s3⟩, t0, t1, t2, t3, t4, t5, t6, t7⟩ := hSw.cells
      go_simp
      try with_reducible rfl
    (try simp only [Act.put, List.setIfInBounds_toArray, List.set_cons_zero, List.set_cons_succ])
    refine callH 4 (some 57) (f := 31) (args := ?_) rfl rfl (by kernel_rfl) (by kernel_rfl) ?_ ?_
    rotate_left
    · go_simp
      try with_reducible rfl
    refine (HBR.out 123 125 _ (by decide) hHA.1).mono ?_
    rintro e vA1 ⟨z1, z2, z3, z4, z5, zk, rfl, hz, hbA1⟩
    have HZ := Lib.hid hz
    clear hz
    have hg3 := keepO (W := w1.drew) G2.out hbA1
    obtain ⟨r0, r1, r2, r3, r4, rf0, rf1, rf2, rf3, rf4⟩ := row5 hg3
    have hHA1 := hHA.below hbA1
    refine ⟨_, rfl, hHA1, ?_⟩
    (try simp only [Act.put, List.setIfInBounds_toArray, List.set_cons_zero, List.set_cons_succ])
    refine takeH 5 (some 58) (v := ?_) rfl rfl (by kernel_rfl) (by kernel_rfl) (by kernel_rfl) (fun _ _ _ h => h) (Or.inl ⟨by kernel_rfl, ?_⟩) hHA1 ?_
    rotate_left
    · intro w' hSw
      obtain ⟨⟨s0, s1, s2, s3⟩, t0, t1, t2, t3, t4, t5, t6, t7⟩ := hSw.cells
      go_simp
      try with_reducible rfl
    (try simp only [Act.put, List.setIfInBounds_toArray, List.set_cons_zero, List.set_cons_succ])
    refine takeH 6 (some 59) (v := ?_) rfl rfl (by kernel_rfl) (by kernel_rfl) (by kernel_rfl) (fun _ _ _ h => h) (Or.inl ⟨by kernel_rfl, ?_⟩) hHA1 ?_
    rotate_left
    · intro w' hSw
      obtain ⟨⟨s0, s1, s2, s3⟩, t0, t1, t2, t3, t4, t5, t6, t7⟩ := hSw.cells
      go_simp
      try with_reducible rfl
    (try simp only [Act.put, List.setIfInBounds_toArray, List.set_cons_zero, List.set_cons_succ])
    have hHA12 : (FnS w (askO a n c l q ar)) ((((((vA1.setCell ⟨w.heap.size + 1, 0, none⟩ (.int .i64 z1)).setCell ⟨w.heap.size + 1, 1, none⟩ (.int .i64 z2)).setCell ⟨w.heap.size + 1, 2, none⟩ (.int .i64 z3)).setCell ⟨w.heap.size + 1, 3, none⟩ (.int .i64 z4)).setCell ⟨w.heap.size + 1, 4, none⟩ (.int .i64 z5))) := ((((hHA1.put hlt0 0 _).put hlt0 1 _).put hlt0 2 _).put hlt0 3 _).put hlt0 4 _
    refine storeH 7 (w' := (((((vA1.setCell ⟨w.heap.size + 1, 0, none⟩ (.int .i64 z1)).setCell ⟨w.heap.size + 1, 1, none⟩ (.int .i64 z2)).setCell ⟨w.heap.size + 1, 2, none⟩ (.int .i64 z3)).setCell ⟨w.heap.size + 1, 3, none⟩ (.int .i64 z4)).setCell ⟨w.heap.size + 1, 4, none⟩ (.int .i64 z5))) rfl rfl (by kernel_rfl) (by kernel_rfl) ?_ hHA12 ?_
    · go_simp
      try rfl
    (try simp only [Act.put, List.setIfInBounds_toArray, List.set_cons_zero, List.set_cons_succ])
    have HEND := hHA12
    refine takeH 8 (some 5) (v := ?_) rfl rfl (by kernel_rfl) (by kernel_rfl) (by kernel_rfl) (fun _ _ _ h => h) (Or.inl ⟨by kernel_rfl, ?_⟩) hHA12 ?_
    rotate_left
    · intro w' hSw
      obtain ⟨⟨s0, s1, s2, s3⟩, t0, t1, t2, t3, t4, t5, t6, t7⟩ := hSw.cells
      go_simp
      try with_reducible rfl
    (try simp only [Act.put, List.setIfInBounds_toArray, List.set_cons_zero, List.set_cons_succ])
    refine wpAnyH_done (by kernel_rfl) ?_ _
    clear r0 r1 r2 r3 r4 rf0 rf1 rf2 rf3 rf4
    obtain ⟨e0', e1', e2', e3', e4', -⟩ := row5 (heap_set (heap_set (heap_set (heap_set (heap_set hg3 0 (.int .i64 z1)) 1 (.int .i64 z2)) 2 (.int .i64 z3)) 3 (.int .i64 z4)) 4 (.int .i64 z5))
    go_wp2_with fail
    refine bodyPost_ret (v := .tuple #[regL z1 z2 z3 z4 z5, .bool zk]) ?_ rfl ⟨_, _, _, _, _, _, rfl, by rw [← HRR.out]; exact HZ.out, HEND.1⟩
    rw [results_ct rfl]
    go_simp
  · have hrr := HR.out
    rw [fdP_br (key := 125) (by omega) (by omega) (by omega) (by omega) (by omega) (by omega), show brk 125 = some (123, 125) by decide] at hrr
    simp only at hrr
    have HRR := Lib.hid hrr
    have hs0 : FnS w (askO a n c l q ar) w1 := ⟨HB1.out, G1.out, HGL.out⟩
    clear hrr x0 x1 x2 x3
    go_enter Tryd.func19, Tryd.ntmps19
    go_upto_region 1 with fail
    rw [HW1.out]
    go_upto_region 26 with fail
    refine wp_region_held (S := FnS w (askO a n c l q ar)) (by kernel_rfl) ?_
    change wpAnyH _ _ _ _ _ _ _ _ (World.drew _)
    have hHA : (FnS w (askO a n c l q ar)) (World.drew w1) := hs0.drew
    refine takeH 0 (some 53) (v := ?_) rfl rfl (by kernel_rfl) (by kernel_rfl) (by kernel_rfl) (fun _ _ _ h => h) (Or.inl ⟨by kernel_rfl, ?_⟩) hHA ?_
    rotate_left
    · intro w' hSw
      obtain ⟨⟨s0, s1, s2, s3⟩, t0, t1, t2, t3, t4, t5, t6, t7⟩ := hSw.cells
      go_simp
      try with_reducible rfl
    (try simp only [Act.put, List.setIfInBounds_toArray, List.set_cons_zero, List.set_cons_succ])
    refine takeH 1 (some 54) (v := ?_) rfl rfl (by kernel_rfl) (by kernel_rfl) (by kernel_rfl) (fun _ _ _ h => h) (Or.inl ⟨by kernel_rfl, ?_⟩) hHA ?_
    rotate_left
    · intro w' hSw
      obtain ⟨⟨s0, s1, s2, s3⟩, t0, t1, t2, t3, t4, t5, t6, t7⟩ := hSw.cells
      go_simp
      try with_reducible rfl
    (try simp only [Act.put, List.setIfInBounds_toArray, List.set_cons_zero, List.set_cons_succ])
    refine takeH 2 (some 55) (v := ?_) rfl rfl (by kernel_rfl) (by kernel_rfl) (by kernel_rfl) (fun _ _ _ h => h) (Or.inl ⟨by kernel_rfl, ?_⟩) hHA ?_
    rotate_left
    · intro w' hSw
      obtain ⟨⟨s0, s1, s2, s3⟩, t0, t1, t2, t3, t4, t5, t6, t7⟩ := hSw.cells
      go_simp
      try with_reducible rfl
    (try simp only [Act.put, List.setIfInBounds_toArray, List.set_cons_zero, List.set_cons_succ])
    refine takeH 3 (some 56) (v := ?_) rfl rfl (by kernel_rfl) (by kernel_rfl) (by kernel_rfl) (fun _ _ _ h => h) (Or.inl ⟨by kernel_rfl, ?_⟩) hHA ?_
    rotate_left
    · intro w' hSw
      obtain ⟨⟨s0, s1, s2, s3⟩, t0, t1, t2, t3, t4, t5, t6, t7⟩ := hSw.cells
      go_simp
      try with_reducible rfl
    (try simp only [Act.put, List.setIfInBounds_toArray, List.set_cons_zero, List.set_cons_succ])
    refine callH 4 (some 57) (f := 31) (args := ?_) rfl rfl (by kernel_rfl) (by kernel_rfl) ?_ ?_
    rotate_left
    · go_simp
      try with_reducible rfl
    refine (HBR.out 123 125 _ (by decide) hHA.1).mono ?_
    rintro e vA1 ⟨z1, z2, z3, z4, z5, zk, rfl, hz, hbA1⟩
    have HZ := Lib.hid hz
    clear hz
    have hg3 := keepO (W := w1.drew) G2.out hbA1
    obtain ⟨r0, r1, r2, r3, r4, rf0, rf1, rf2, rf3, rf4⟩ := row5 hg3
    have hHA1 := hHA.below hbA1
    refine ⟨_, rfl, hHA1, ?_⟩
    (try simp only [Act.put, List.setIfInBounds_toArray, List.set_cons_zero, List.set_cons_succ])
    refine takeH 5 (some 58) (v := ?_) rfl rfl (by kernel_rfl) (by kernel_rfl) (by kernel_rfl) (fun _ _ _ h => h) (Or.inl ⟨by kernel_rfl, ?_⟩) hHA1 ?_
    rotate_left
    · intro w' hSw
      obtain ⟨⟨s0, s1, s2, s3⟩, t0, t1, t2, t3, t4, t5, t6, t7⟩ := hSw.cells
      go_simp
      try with_reducible rfl
    (try simp only [Act.put, List.setIfInBounds_toArray, List.set_cons_zero, List.set_cons_succ])
    refine takeH 6 (some 59) (v := ?_) rfl rfl (by kernel_rfl) (by kernel_rfl) (by kernel_rfl) (fun _ _ _ h => h) (Or.inl ⟨by kernel_rfl, ?_⟩) hHA1 ?_
    rotate_left
    · intro w' hSw
      obtain ⟨⟨s0, s1, s2, s3⟩, t0, t1, t2, t3, t4, t5, t6, t7⟩ := hSw.cells
      go_simp
      try with_reducible rfl
    (try simp only [Act.put, List.setIfInBounds_toArray, List.set_cons_zero, List.set_cons_succ])
    have hHA12 : (FnS w (askO a n c l q ar)) ((((((vA1.setCell ⟨w.heap.size + 1, 0, none⟩ (.int .i64 z1)).setCell ⟨w.heap.size + 1, 1, none⟩ (.int .i64 z2)).setCell ⟨w.heap.size + 1, 2, none⟩ (.int .i64 z3)).setCell ⟨w.heap.size + 1, 3, none⟩ (.int .i64 z4)).setCell ⟨w.heap.size + 1, 4, none⟩ (.int .i64 z5))) := ((((hHA1.put hlt0 0 _).put hlt0 1 _).put hlt0 2 _).put hlt0 3 _).put hlt0 4 _
    refine storeH 7 (w' := (((((vA1.setCell ⟨w.heap.size + 1, 0, none⟩ (.int .i64 z1)).setCell ⟨w.heap.size + 1, 1, none⟩ (.int .i64 z2)).setCell ⟨w.heap.size + 1, 2, none⟩ (.int .i64 z3)).setCell ⟨w.heap.size + 1, 3, none⟩ (.int .i64 z4)).setCell ⟨w.heap.size + 1, 4, none⟩ (.int .i64 z5))) rfl rfl (by kernel_rfl) (by kernel_rfl) ?_ hHA12 ?_
    · go_simp
      try rfl
    (try simp only [Act.put, List.setIfInBounds_toArray, List.set_cons_zero, List.set_cons_succ])
    have HEND := hHA12
    refine takeH 8 (some 5) (v := ?_) rfl rfl (by kernel_rfl) (by kernel_rfl) (by kernel_rfl) (fun _ _ _ h => h) (Or.inl ⟨by kernel_rfl, ?_⟩) hHA12 ?_
    rotate_left
    · intro w' hSw
      obtain ⟨⟨s0, s1, s2, s3⟩, t0, t1, t2, t3, t4, t5, t6, t7⟩ := hSw.cells
      go_simp
      try with_reducible rfl
    (try simp only [Act.put, List.setIfInBounds_toArray, List.set_cons_zero, List.set_cons_succ])
    refine wpAnyH_done (by kernel_rfl) ?_ _
    clear r0 r1 r2 r3 r4 rf0 rf1 rf2 rf3 rf4
    obtain ⟨e0', e1', e2', e3', e4', -⟩ := row5 (heap_set (heap_set (heap_set (heap_set (heap_set hg3 0 (.int .i64 z1)) 1 (.int .i64 z2)) 2 (.int .i64 z3)) 3 (.int .i64 z4)) 4 (.int .i64 z5))
    go_wp2_with fail
    refine bodyPost_ret (v := .tuple #[regL z1 z2 z3 z4 z5, .bool zk]) ?_ rfl ⟨_, _, _, _, _, _, rfl, by rw [← HRR.out]; exact HZ.out, HEND.1⟩
    rw [results_ct rfl]
    go_simp
  · have hrr := HR.out
    rw [fdP_br (key := 66) (by omega) (by omega) (by omega) (by omega) (by omega) (by omega), show brk 66 = some (123, 125) by decide] at hrr
    simp only at hrr
    have HRR := Lib.hid hrr
    have hs0 : FnS w (askO a n c l q ar) w1 := ⟨HB1.out, G1.out, HGL.out⟩
    clear hrr x0 x1 x2 x3
    go_enter Tryd.func19, Tryd.ntmps19
    go_upto_region 1 with fail
    rw [HW1.out]
    go_upto_region 26 with fail
    refine wp_region_held (S := FnS w (askO a n c l q ar)) (by kernel_rfl) ?_
    change wpAnyH _ _ _ _ _ _ _ _ (World.drew _)
    have hHA : (FnS w (askO a n c l q ar)) (World.drew w1) := hs0.drew
    refine takeH 0 (some 53) (v := ?_) rfl rfl (by kernel_rfl) (by kernel_rfl) (by kernel_rfl) (fun _ _ _ h => h) (Or.inl ⟨by kernel_rfl, ?_⟩) hHA ?_
    rotate_left
    · intro w' hSw
      obtain ⟨⟨s0, s1, s2, s3⟩, t0, t1, t2, t3, t4, t5, t6, t7⟩ := hSw.cells
      go_simp
      try with_reducible rfl
    (try simp only [Act.put, List.setIfInBounds_toArray, List.set_cons_zero, List.set_cons_succ])
    refine takeH 1 (some 54) (v := ?_) rfl rfl (by kernel_rfl) (by kernel_rfl) (by kernel_rfl) (fun _ _ _ h => h) (Or.inl ⟨by kernel_rfl, ?_⟩) hHA ?_
    rotate_left
    · intro w' hSw
      obtain ⟨⟨s0, s1, s2, s3⟩, t0, t1, t2, t3, t4, t5, t6, t7⟩ := hSw.cells
      go_simp
      try with_reducible rfl
    (try simp only [Act.put, List.setIfInBounds_toArray, List.set_cons_zero, List.set_cons_succ])
    refine takeH 2 (some 55) (v := ?_) rfl rfl (by kernel_rfl) (by kernel_rfl) (by kernel_rfl) (fun _ _ _ h => h) (Or.inl ⟨by kernel_rfl, ?_⟩) hHA ?_
    rotate_left
    · intro w' hSw
      obtain ⟨⟨s0, s1, s2, s3⟩, t0, t1, t2, t3, t4, t5, t6, t7⟩ := hSw.cells
      go_simp
      try with_reducible rfl
    (try simp only [Act.put, List.setIfInBounds_toArray, List.set_cons_zero, List.set_cons_succ])
    refine takeH 3 (some 56) (v := ?_) rfl rfl (by kernel_rfl) (by kernel_rfl) (by kernel_rfl) (fun _ _ _ h => h) (Or.inl ⟨by kernel_rfl, ?_⟩) hHA ?_
    rotate_left
    · intro w' hSw
      obtain ⟨⟨s0, s1, s2, s3⟩, t0, t1, t2, t3, t4, t5, t6, t7⟩ := hSw.cells
      go_simp
      try with_reducible rfl
    (try simp only [Act.put, List.setIfInBounds_toArray, List.set_cons_zero, List.set_cons_succ])
    refine callH 4 (some 57) (f := 31) (args := ?_) rfl rfl (by kernel_rfl) (by kernel_rfl) ?_ ?_
    rotate_left
    · go_simp
      try with_reducible rfl
    refine (HBR.out 123 125 _ (by decide) hHA.1).mono ?_
    rintro e vA1 ⟨z1, z2, z3, z4, z5, zk, rfl, hz, hbA1⟩
    have HZ := Lib.hid hz
    clear hz
    have hg3 := keepO (W := w1.drew) G2.out hbA1
    obtain ⟨r0, r1, r2, r3, r4, rf0, rf1, rf2, rf3, rf4⟩ := row5 hg3
    have hHA1 := hHA.below hbA1
    refine ⟨_, rfl, hHA1, ?_⟩
    (try simp only [Act.put, List.setIfInBounds_toArray, List.set_cons_zero, List.set_cons_succ])
    refine takeH 5 (some 58) (v := ?_) rfl rfl (by kernel_rfl) (by kernel_rfl) (by kernel_rfl) (fun _ _ _ h => h) (Or.inl ⟨by kernel_rfl, ?_⟩) hHA1 ?_
    rotate_left
    · intro w' hSw
      obtain ⟨⟨s0, s1, s2, s3⟩, t0, t1, t2, t3, t4, t5, t6, t7⟩ := hSw.cells
      go_simp
      try with_reducible rfl
    (try simp only [Act.put, List.setIfInBounds_toArray, List.set_cons_zero, List.set_cons_succ])
    refine takeH 6 (some 59) (v := ?_) rfl rfl (by kernel_rfl) (by kernel_rfl) (by kernel_rfl) (fun _ _ _ h => h) (Or.inl ⟨by kernel_rfl, ?_⟩) hHA1 ?_
    rotate_left
    · intro w' hSw
      obtain ⟨⟨s0, s1, s2, s3⟩, t0, t1, t2, t3, t4, t5, t6, t7⟩ := hSw.cells
      go_simp
      try with_reducible rfl
    (try simp only [Act.put, List.setIfInBounds_toArray, List.set_cons_zero, List.set_cons_succ])
    have hHA12 : (FnS w (askO a n c l q ar)) ((((((vA1.setCell ⟨w.heap.size + 1, 0, none⟩ (.int .i64 z1)).setCell ⟨w.heap.size + 1, 1, none⟩ (.int .i64 z2)).setCell ⟨w.heap.size + 1, 2, none⟩ (.int .i64 z3)).setCell ⟨w.heap.size + 1, 3, none⟩ (.int .i64 z4)).setCell ⟨w.heap.size + 1, 4, none⟩ (.int .i64 z5))) := ((((hHA1.put hlt0 0 _).put hlt0 1 _).put hlt0 2 _).put hlt0 3 _).put hlt0 4 _
    refine storeH 7 (w' := (((((vA1.setCell ⟨w.heap.size + 1, 0, none⟩ (.int .i64 z1)).setCell ⟨w.heap.size + 1, 1, none⟩ (.int .i64 z2)).setCell ⟨w.heap.size + 1, 2, none⟩ (.int .i64 z3)).setCell ⟨w.heap.size + 1, 3, none⟩ (.int .i64 z4)).setCell ⟨w.heap.size + 1, 4, none⟩ (.int .i64 z5))) rfl rfl (by kernel_rfl) (by kernel_rfl) ?_ hHA12 ?_
    · go_simp
      try rfl
    (try simp only [Act.put, List.setIfInBounds_toArray, List.set_cons_zero, List.set_cons_succ])
    have HEND := hHA12
    refine takeH 8 (some 5) (v := ?_) rfl rfl (by kernel_rfl) (by kernel_rfl) (by kernel_rfl) (fun _ _ _ h => h) (Or.inl ⟨by kernel_rfl, ?_⟩) hHA12 ?_
    rotate_left
    · intro w' hSw
      obtain ⟨⟨s0, s1, s2, s3⟩, t0, t1, t2, t3, t4, t5, t6, t7⟩ := hSw.cells
      go_simp
      try with_reducible rfl
    (try simp only [Act.put, List.setIfInBounds_toArray, List.set_cons_zero, List.set_cons_succ])
    refine wpAnyH_done (by kernel_rfl) ?_ _
    clear r0 r1 r2 r3 r4 rf0 rf1 rf2 rf3 rf4
    obtain ⟨e0', e1', e2', e3', e4', -⟩ := row5 (heap_set (heap_set (heap_set (heap_set (heap_set hg3 0 (.int .i64 z1)) 1 (.int .i64 z2)) 2 (.int .i64 z3)) 3 (.int .i64 z4)) 4 (.int .i64 z5))
    go_wp2_with fail
    refine bodyPost_ret (v := .tuple #[regL z1 z2 z3 z4 z5, .bool zk]) ?_ rfl ⟨_, _, _, _, _, _, rfl, by rw [← HRR.out]; exact HZ.out, HEND.1⟩
    rw [results_ct rfl]
    go_simp
  · have hrr := HR.out
    rw [fdP_br (key := 60) (by omega) (by omega) (by omega) (by omega) (by omega) (by omega), show brk 60 = some (60, 62) by decide] at hrr
    simp only at hrr
    have HRR := Lib.hid hrr
    have hs0 : FnS w (askO a n c l q ar) w1 := ⟨HB1.out, G1.out, HGL.out⟩
    clear hrr x0 x1 x2 x3
    go_enter Tryd.func19, Tryd.ntmps19
    go_upto_region 1 with fail
    rw [HW1.out]
    go_upto_region 26 with fail
    refine wp_region_held (S := FnS w (askO a n c l q ar)) (by kernel_rfl) ?_
    change wpAnyH _ _ _ _ _ _ _ _ (World.drew _)
    have hHA : (FnS w (askO a n c l q ar)) (World.drew w1) := hs0.drew
    refine takeH 0 (some 53) (v := ?_) rfl rfl (by kernel_rfl) (by kernel_rfl) (by kernel_rfl) (fun _ _ _ h => h) (Or.inl ⟨by kernel_rfl, ?_⟩) hHA ?_
    rotate_left
    · intro w' hSw
      obtain ⟨⟨s0, s1, s2, s3⟩, t0, t1, t2, t3, t4, t5, t6, t7⟩ := hSw.cells
      go_simp
      try with_reducible rfl
    (try simp only [Act.put, List.setIfInBounds_toArray, List.set_cons_zero, List.set_cons_succ])
    refine takeH 1 (some 54) (v := ?_) rfl rfl (by kernel_rfl) (by kernel_rfl) (by kernel_rfl) (fun _ _ _ h => h) (Or.inl ⟨by kernel_rfl, ?_⟩) hHA ?_
    rotate_left
    · intro w' hSw
      obtain ⟨⟨s0, s1, s2, s3⟩, t0, t1, t2, t3, t4, t5, t6, t7⟩ := hSw.cells
      go_simp
      try with_reducible rfl
    (try simp only [Act.put, List.setIfInBounds_toArray, List.set_cons_zero, List.set_cons_succ])
    refine takeH 2 (some 55) (v := ?_) rfl rfl (by kernel_rfl) (by kernel_rfl) (by kernel_rfl) (fun _ _ _ h => h) (Or.inl ⟨by kernel_rfl, ?_⟩) hHA ?_
    rotate_left
    · intro w' hSw
      obtain ⟨⟨s0, s1, s2, s3⟩, t0, t1, t2, t3, t4, t5, t6, t7⟩ := hSw.cells
      go_simp
      try with_reducible rfl
    (try simp only [Act.put, List.setIfInBounds_toArray, List.set_cons_zero, List.set_cons_succ])
    refine takeH 3 (some 56) (v := ?_) rfl rfl (by kernel_rfl) (by kernel_rfl) (by kernel_rfl) (fun _ _ _ h => h) (Or.inl ⟨by kernel_rfl, ?_⟩) hHA ?_
    rotate_left
    · intro w' hSw
      obtain ⟨⟨s0, s1, s2, s3⟩, t0, t1, t2, t3, t4, t5, t6, t7⟩ := hSw.cells
      go_simp
      try with_reducible rfl
    (try simp only [Act.put, List.setIfInBounds_toArray, List.set_cons_zero, List.set_cons_succ])
    refine callH 4 (some 57) (f := 31) (args := ?_) rfl rfl (by kernel_rfl) (by kernel_rfl) ?_ ?_
    rotate_left
    · go_simp
      try with_reducible rfl
    refine (HBR.out 60 62 _ (by decide) hHA.1).mono ?_
    rintro e vA1 ⟨z1, z2, z3, z4, z5, zk, rfl, hz, hbA1⟩
    have HZ := Lib.hid hz
    clear hz
    have hg3 := keepO (W := w1.drew) G2.out hbA1
    obtain ⟨r0, r1, r2, r3, r4, rf0, rf1, rf2, rf3, rf4⟩ := row5 hg3
    have hHA1 := hHA.below hbA1
    refine ⟨_, rfl, hHA1, ?_⟩
    (try simp only [Act.put, List.setIfInBounds_toArray, List.set_cons_zero, List.set_cons_succ])
    refine takeH 5 (some 58) (v := ?_) rfl rfl (by kernel_rfl) (by kernel_rfl) (by kernel_rfl) (fun _ _ _ h => h) (Or.inl ⟨by kernel_rfl, ?_⟩) hHA1 ?_
    rotate_left
    · intro w' hSw
      obtain ⟨⟨s0, s1, s2, s3⟩, t0, t1, t2, t3, t4, t5, t6, t7⟩ := hSw.cells
      go_simp
      try with_reducible rfl
    (try simp only [Act.put, List.setIfInBounds_toArray, List.set_cons_zero, List.set_cons_succ])
    refine takeH 6 (some 59) (v := ?_) rfl rfl (by kernel_rfl) (by kernel_rfl) (by kernel_rfl) (fun _ _ _ h => h) (Or.inl ⟨by kernel_rfl, ?_⟩) hHA1 ?_
    rotate_left
    · intro w' hSw
      obtain ⟨⟨s0, s1, s2, s3⟩, t0, t1, t2, t3, t4, t5, t6, t7⟩ := hSw.cells
      go_simp
      try with_reducible rfl
    (try simp only [Act.put, List.setIfInBounds_toArray, List.set_cons_zero, List.set_cons_succ])
    have hHA12 : (FnS w (askO a n c l q ar)) ((((((vA1.setCell ⟨w.heap.size + 1, 0, none⟩ (.int .i64 z1)).setCell ⟨w.heap.size + 1, 1, none⟩ (.int .i64 z2)).setCell ⟨w.heap.size + 1, 2, none⟩ (.int .i64 z3)).setCell ⟨w.heap.size + 1, 3, none⟩ (.int .i64 z4)).setCell ⟨w.heap.size + 1, 4, none⟩ (.int .i64 z5))) := ((((hHA1.put hlt0 0 _).put hlt0 1 _).put hlt0 2 _).put hlt0 3 _).put hlt0 4 _
    refine storeH 7 (w' := (((((vA1.setCell ⟨w.heap.size + 1, 0, none⟩ (.int .i64 z1)).setCell ⟨w.heap.size + 1, 1, none⟩ (.int .i64 z2)).setCell ⟨w.heap.size + 1, 2, none⟩ (.int .i64 z3)).setCell ⟨w.heap.size + 1, 3, none⟩ (.int .i64 z4)).setCell ⟨w.heap.size + 1, 4, none⟩ (.int .i64 z5))) rfl rfl (by kernel_rfl) (by kernel_rfl) ?_ hHA12 ?_
    · go_simp
      try rfl
    (try simp only [Act.put, List.setIfInBounds_toArray, List.set_cons_zero, List.set_cons_succ])
    have HEND := hHA12
    refine takeH 8 (some 5) (v := ?_) rfl rfl (by kernel_rfl) (by kernel_rfl) (by kernel_rfl) (fun _ _ _ h => h) (Or.inl ⟨by kernel_rfl, ?_⟩) hHA12 ?_
    rotate_left
    · intro w' hSw
      obtain ⟨⟨s0, s1, s2, s3⟩, t0, t1, t2, t3, t4, t5, t6, t7⟩ := hSw.cells
      go_simp
      try with_reducible rfl
    (try simp only [Act.put, List.setIfInBounds_toArray, List.set_cons_zero, List.set_cons_succ])
    refine wpAnyH_done (by kernel_rfl) ?_ _
    clear r0 r1 r2 r3 r4 rf0 rf1 rf2 rf3 rf4
    obtain ⟨e0', e1', e2', e3', e4', -⟩ := row5 (heap_set (heap_set (heap_set (heap_set (heap_set hg3 0 (.int .i64 z1)) 1 (.int .i64 z2)) 2 (.int .i64 z3)) 3 (.int .i64 z4)) 4 (.int .i64 z5))
    go_wp2_with fail
    refine bodyPost_ret (v := .tuple #[regL z1 z2 z3 z4 z5, .bool zk]) ?_ rfl ⟨_, _, _, _, _, _, rfl, by rw [← HRR.out]; exact HZ.out, HEND.1⟩
    rw [results_ct rfl]
    go_simp
  · have hrr := HR.out
    rw [fdP_br (key := 62) (by omega) (by omega) (by omega) (by omega) (by omega) (by omega), show brk 62 = some (60, 62) by decide] at hrr
    simp only at hrr
    have HRR := Lib.hid hrr
    have hs0 : FnS w (askO a n c l q ar) w1 := ⟨HB1.out, G1.out, HGL.out⟩
    clear hrr x0 x1 x2 x3
    go_enter Tryd.func19, Tryd.ntmps19
    go_upto_region 1 with fail
    rw [HW1.out]
    go_upto_region 26 with fail
    refine wp_region_held (S := FnS w (askO a n c l q ar)) (by kernel_rfl) ?_
    change wpAnyH _ _ _ _ _ _ _ _ (World.drew _)
    have hHA : (FnS w (askO a n c l q ar)) (World.drew w1) := hs0.drew
    refine takeH 0 (some 53) (v := ?_) rfl rfl (by kernel_rfl) (by kernel_rfl) (by kernel_rfl) (fun _ _ _ h => h) (Or.inl ⟨by kernel_rfl, ?_⟩) hHA ?_
    rotate_left
    · intro w' hSw
      obtain ⟨⟨s0, s1, s2, s3⟩, t0, t1, t2, t3, t4, t5, t6, t7⟩ := hSw.cells
      go_simp
      try with_reducible rfl
    (try simp only [Act.put, List.setIfInBounds_toArray, List.set_cons_zero, List.set_cons_succ])
    refine takeH 1 (some 54) (v := ?_) rfl rfl (by kernel_rfl) (by kernel_rfl) (by kernel_rfl) (fun _ _ _ h => h) (Or.inl ⟨by kernel_rfl, ?_⟩) hHA ?_
    rotate_left
    · intro w' hSw
      obtain ⟨⟨s0, s1, s2, s3⟩, t0, t1, t2, t3, t4, t5, t6, t7⟩ := hSw.cells
      go_simp
      try with_reducible rfl
    (try simp only [Act.put, List.setIfInBounds_toArray, List.set_cons_zero, List.set_cons_succ])
    refine takeH 2 (some 55) (v := ?_) rfl rfl (by kernel_rfl) (by kernel_rfl) (by kernel_rfl) (fun _ _ _ h => h) (Or.inl ⟨by kernel_rfl, ?_⟩) hHA ?_
    rotate_left
    · intro w' hSw
      obtain ⟨⟨s0, s1, s2, s3⟩, t0, t1, t2, t3, t4, t5, t6, t7⟩ := hSw.cells
      go_simp
      try with_reducible rfl
    (try simp only [Act.put, List.setIfInBounds_toArray, List.set_cons_zero, List.set_cons_succ])
    refine takeH 3 (some 56) (v := ?_) rfl rfl (by kernel_rfl) (by kernel_rfl) (by kernel_rfl) (fun _ _ _ h => h) (Or.inl ⟨by kernel_rfl, ?_⟩) hHA ?_
    rotate_left
    · intro w' hSw
      obtain ⟨⟨s0, s1, s2, s3⟩, t0, t1, t2, t3, t4, t5, t6, t7⟩ := hSw.cells
      go_simp
      try with_reducible rfl
    (try simp only [Act.put, List.setIfInBounds_toArray, List.set_cons_zero, List.set_cons_succ])
    refine callH 4 (some 57) (f := 31) (args := ?_) rfl rfl (by kernel_rfl) (by kernel_rfl) ?_ ?_
    rotate_left
    · go_simp
      try with_reducible rfl
    refine (HBR.out 60 62 _ (by decide) hHA.1).mono ?_
    rintro e vA1 ⟨z1, z2, z3, z4, z5, zk, rfl, hz, hbA1⟩
    have HZ := Lib.hid hz
    clear hz
    have hg3 := keepO (W := w1.drew) G2.out hbA1
    obtain ⟨r0, r1, r2, r3, r4, rf0, rf1, rf2, rf3, rf4⟩ := row5 hg3
    have hHA1 := hHA.below hbA1
    refine ⟨_, rfl, hHA1, ?_⟩
    (try simp only [Act.put, List.setIfInBounds_toArray, List.set_cons_zero, List.set_cons_succ])
    refine takeH 5 (some 58) (v := ?_) rfl rfl (by kernel_rfl) (by kernel_rfl) (by kernel_rfl) (fun _ _ _ h => h) (Or.inl ⟨by kernel_rfl, ?_⟩) hHA1 ?_
    rotate_left
    · intro w' hSw
      obtain ⟨⟨s0, s1, s2, s3⟩, t0, t1, t2, t3, t4, t5, t6, t7⟩ := hSw.cells
      go_simp
      try with_reducible rfl
    (try simp only [Act.put, List.setIfInBounds_toArray, List.set_cons_zero, List.set_cons_succ])
    refine takeH 6 (some 59) (v := ?_) rfl rfl (by kernel_rfl) (by kernel_rfl) (by kernel_rfl) (fun _ _ _ h => h) (Or.inl ⟨by kernel_rfl, ?_⟩) hHA1 ?_
    rotate_left
    · intro w' hSw
      obtain ⟨⟨s0, s1, s2, s3⟩, t0, t1, t2, t3, t4, t5, t6, t7⟩ := hSw.cells
      go_simp
      try with_reducible rfl
    (try simp only [Act.put, List.setIfInBounds_toArray, List.set_cons_zero, List.set_cons_succ])
    have hHA12 : (FnS w (askO a n c l q ar)) ((((((vA1.setCell ⟨w.heap.size + 1, 0, none⟩ (.int .i64 z1)).setCell ⟨w.heap.size + 1, 1, none⟩ (.int .i64 z2)).setCell ⟨w.heap.size + 1, 2, none⟩ (.int .i64 z3)).setCell ⟨w.heap.size + 1, 3, none⟩ (.int .i64 z4)).setCell ⟨w.heap.size + 1, 4, none⟩ (.int .i64 z5))) := ((((hHA1.put hlt0 0 _).put hlt0 1 _).put hlt0 2 _).put hlt0 3 _).put hlt0 4 _
    refine storeH 7 (w' := (((((vA1.setCell ⟨w.heap.size + 1, 0, none⟩ (.int .i64 z1)).setCell ⟨w.heap.size + 1, 1, none⟩ (.int .i64 z2)).setCell ⟨w.heap.size + 1, 2, none⟩ (.int .i64 z3)).setCell ⟨w.heap.size + 1, 3, none⟩ (.int .i64 z4)).setCell ⟨w.heap.size + 1, 4, none⟩ (.int .i64 z5))) rfl rfl (by kernel_rfl) (by kernel_rfl) ?_ hHA12 ?_
    · go_simp
      try rfl
    (try simp only [Act.put, List.setIfInBounds_toArray, List.set_cons_zero, List.set_cons_succ])
    have HEND := hHA12
    refine takeH 8 (some 5) (v := ?_) rfl rfl (by kernel_rfl) (by kernel_rfl) (by kernel_rfl) (fun _ _ _ h => h) (Or.inl ⟨by kernel_rfl, ?_⟩) hHA12 ?_
    rotate_left
    · intro w' hSw
      obtain ⟨⟨s0, s1, s2, s3⟩, t0, t1, t2, t3, t4, t5, t6, t7⟩ := hSw.cells
      go_simp
      try with_reducible rfl
    (try simp only [Act.put, List.setIfInBounds_toArray, List.set_cons_zero, List.set_cons_succ])
    refine wpAnyH_done (by kernel_rfl) ?_ _
    clear r0 r1 r2 r3 r4 rf0 rf1 rf2 rf3 rf4
    obtain ⟨e0', e1', e2', e3', e4', -⟩ := row5 (heap_set (heap_set (heap_set (heap_set (heap_set hg3 0 (.int .i64 z1)) 1 (.int .i64 z2)) 2 (.int .i64 z3)) 3 (.int .i64 z4)) 4 (.int .i64 z5))
    go_wp2_with fail
    refine bodyPost_ret (v := .tuple #[regL z1 z2 z3 z4 z5, .bool zk]) ?_ rfl ⟨_, _, _, _, _, _, rfl, by rw [← HRR.out]; exact HZ.out, HEND.1⟩
    rw [results_ct rfl]
    go_simp
  · have f1 : (key == 119) = false := by simp [k1]
    have f2 : (key == 87) = false := by simp [k2]
    have f3 : (key == 34) = false := by simp [k3]
    have f4 : (key == 39) = false := by simp [k4]
    have f5 : (key == 96) = false := by simp [k5]
    have f6 : (key == 112) = false := by simp [k6]
    have f7 : (key == 40) = false := by simp [k7]
    have f8 : (key == 41) = false := by simp [k8]
    have f9 : (key == 98) = false := by simp [k9]
    have f10 : (key == 91) = false := by simp [k10]
    have f11 : (key == 93) = false := by simp [k11]
    have f12 : (key == 123) = false := by simp [k12]
    have f13 : (key == 125) = false := by simp [k13]
    have f14 : (key == 66) = false := by simp [k14]
    have f15 : (key == 60) = false := by simp [k15]
    have f16 : (key == 62) = false := by simp [k16]
    have HRR : Hid (R = none) := by
      show _ = _
      rw [← HR.out, fdP_br k1 k2 k3 k4 k5 k6]
      have : brk key = none := by
        unfold brk
        rw [if_neg (by omega), if_neg (by omega), if_neg (by omega), if_neg (by omega)]
      rw [this]
    obtain ⟨r0, r1, r2, r3, r4, rf0, rf1, rf2, rf3, rf4⟩ := row5 G2.out
    clear k1 k2 k3 k4 k5 k6 k7 k8 k9 k10 k11 k12 k13 k14 k15 k16
    go_enter Tryd.func19, Tryd.ntmps19
    go_upto_region 1 with fail
    rw [HW1.out]
    go_wp2_with fail
    refine bodyPost_ret (v := .tuple #[regL 0 0 0 0 0, .bool false]) ?_ rfl ⟨0, 0, 0, 0, 0, false, rfl, by rw [HRR.out]; rfl, ?_⟩
    · rw [results_ct rfl]
      go_simp
    · have h2 := HB1.out
      (repeat' (first | with_reducible exact h2 | omega | with_reducible refine setCell_below ?_ _ _ _ ?_))
set_option maxHeartbeats 4000000 in
theorem ofind_any : FindC 9 := by
  intro F a n c L p key around w hg h hq hkb hz
  obtain ⟨u, v⟩ := p
  show Calls Tryd.prog _ #[.slice a n c, .agg #[.int .i64 u, .int .i64 v], .int .i32 key, .bool around] w _
  have hl := h.len
  have hsm := h.small
  obtain ⟨V, hV⟩ : ∃ V, fdV (fdR L (clipP L u v) key around) = V := ⟨_, rfl⟩
  simp only
  rw [hV]
  obtain ⟨w1, hw1, hsz, g1, g2, g3, hb1⟩ := three3 w (.cells #[.int .i64 u, .int .i64 v] 24) (.cells #[.int .i64 0, .int .i64 0] 24) (.cells #[.int .i64 0, .int .i64 0] 24)
  obtain ⟨x0, x1, -, -⟩ := row2 g1
  obtain ⟨y0, y1, yf0, yf1⟩ := row2 g2
  obtain ⟨z0, z1, zf0, zf1⟩ := row2 g3
  have n1 : ¬ w.heap.size + 1 = w.heap.size + 1 + 1 := by omega
  have n2 : ¬ w.heap.size + 1 + 1 = w.heap.size + 1 := by omega
  have HW1 := Lib.hid hw1
  have HB1 := Lib.hid hb1
  have G1 := Lib.hid g1
  have G2 := Lib.hid g2
  have G3 := Lib.hid g3
  by_cases hn0 : n = 0
  · have e0 : ((n : Int) == 0) = true := by simp; omega
    have hL : L = [] := List.eq_nil_of_length_eq_zero (by omega)
    have HV : Hid (V = .tuple #[.agg #[.int .i64 0, .int .i64 0], .agg #[.int .i64 0, .int .i64 0], .int .i64 0, .bool false]) := by
      show _ = _
      rw [← hV]
      unfold fdR
      rw [if_pos hL]
      rfl
    clear h g1 g2 g3 hb1 hw1 hl hz hsz hV hL hn0 hq hkb
    go_enter Tryd.func9, Tryd.ntmps9
    go_upto_region 1 with fail
    rw [HW1.out]
    go_wp2_with fail
    refine bodyPost_ret (v := .tuple #[.agg #[.int .i64 0, .int .i64 0], .agg #[.int .i64 0, .int .i64 0], .int .i64 0, .bool false]) ?_ rfl ⟨by rw [HV.out], ?_⟩
    · rw [results_cctt rfl]
      go_simp
    · have h2 := HB1.out
      (repeat' (first | with_reducible exact h2 | omega | with_reducible refine setCell_below ?_ _ _ _ ?_))
  have e0 : ((n : Int) == 0) = false := by simp; omega
  have hL : L ≠ [] := by rintro rfl; simp at hl; omega
  have hok := clipP_ok hL u v
  obtain ⟨⟨c1, c2⟩, hcp⟩ : ∃ p, clipP L u v = p := ⟨_, rfl⟩
  rw [hcp] at hok hV
  have HCL : Hid (Calls Tryd.prog 18 #[.slice a n c, .agg #[.int .i64 u, .int .i64 v]] w1 fun e w' => e = .returned (.agg #[.int .i64 (c1 : Nat), .int .i64 (c2 : Nat)]) ∧ Below w1.heap.size w1 w') := by
    have := wclip_any _ a n c L ⟨u, v⟩ w1 (h.below hb1) hq
    simp only [hcp] at this
    exact this
  obtain ⟨R, hR⟩ : ∃ R, fdP L (c1, c2) key around = R := ⟨_, rfl⟩
  have HFD : Hid (∀ W, Below w.heap.size w W → Calls Tryd.prog 19 #[askL a n c c1 c2 around, .int .i32 key] W (RgE R W)) := fun W hW => by
    rw [← hR]
    exact afind_any F a n c c1 c2 around L key W (hg.up hW) (h.below hW) hok hz
  rw [fdR_of hL hR] at hV
  clear h g1 g2 g3 hb1 hw1 hl hz hsz hL hn0 hq hkb hok hcp hR hg
  cases R with
  | none =>
    have HV : Hid (V = .tuple #[.agg #[.int .i64 0, .int .i64 0], .agg #[.int .i64 0, .int .i64 0], .int .i64 0, .bool false]) := hV.symm
    clear hV
    go_enter Tryd.func9, Tryd.ntmps9
    go_upto_region 1 with fail
    rw [HW1.out]
    go_upto_region 4 with (first
      | (go_at_call 18; refine HCL.out.mono ?_; rintro e w3 ⟨rfl, hb3⟩)
      | (go_at_call 19; refine (HFD.out _ (btr HB1.out hb3)).mono ?_; rintro e w5 ⟨q1, q2, q3, q4, q5, qk, rfl, hq, hb5⟩; obtain rfl : qk = false := hq))
    obtain ⟨w6, hw6, hsz6, g6, hb6⟩ := one1 w5 (.cells #[.int .i64 q1, .int .i64 q2, .int .i64 q3, .int .i64 q4, .int .i64 q5] 41)
    rw [hw6]
    have hb36 := btr hb3 (btr hb5 hb6)
    have HB6 : Hid (Below w.heap.size w w6) := btr HB1.out hb36
    obtain ⟨y0, y1, yf0, yf1⟩ := row2 (keepO G2.out hb36)
    obtain ⟨z0, z1, zf0, zf1⟩ := row2 (keepO G3.out hb36)
    have hS6 : w.heap.size + 1 + 1 < w5.heap.size := (Array.getElem?_eq_some_iff.1 (keepO G3.out (btr hb3 hb5))).1
    obtain ⟨S6, hS⟩ : ∃ S, w5.heap.size = S := ⟨_, rfl⟩
    rw [hS] at g6 hS6
    rw [hS]
    obtain ⟨s0, s1, s2, s3, s4, -⟩ := row5 g6
    have m1 : ¬ S6 = w.heap.size + 1 := by omega
    have m2 : ¬ S6 = w.heap.size + 1 + 1 := by omega
    clear hw6 hsz6 g6 hb6 hb5 hb3 hb36 hS x0 x1
    go_wp2_with fail
    refine bodyPost_ret (v := .tuple #[.agg #[.int .i64 0, .int .i64 0], .agg #[.int .i64 0, .int .i64 0], .int .i64 0, .bool false]) ?_ rfl ⟨by rw [HV.out], ?_⟩
    · rw [results_cctt rfl]
      go_simp
    · have h2 := HB6.out
      (repeat' (first | with_reducible exact h2 | omega | with_reducible refine setCell_below ?_ _ _ _ ?_))
  | some y =>
    obtain ⟨⟨a1, a2⟩, ⟨b1, b2⟩, kd⟩ := y
    have HV : Hid (V = .tuple #[.agg #[.int .i64 (a1 : Nat), .int .i64 (a2 : Nat)], .agg #[.int .i64 (b1 : Nat), .int .i64 (b2 : Nat)], .int .i64 kd, .bool true]) := hV.symm
    clear hV
    go_enter Tryd.func9, Tryd.ntmps9
    go_upto_region 1 with fail
    rw [HW1.out]
    go_upto_region 4 with (first
      | (go_at_call 18; refine HCL.out.mono ?_; rintro e w3 ⟨rfl, hb3⟩)
      | (go_at_call 19; refine (HFD.out _ (btr HB1.out hb3)).mono ?_; rintro e w5 ⟨q1, q2, q3, q4, q5, qk, rfl, hq, hb5⟩; obtain ⟨rfl, rfl, rfl, rfl, rfl, rfl⟩ := hq))
    obtain ⟨w6, hw6, hsz6, g6, hb6⟩ := one1 w5 (.cells #[.int .i64 (a1 : Nat), .int .i64 (a2 : Nat), .int .i64 (b1 : Nat), .int .i64 (b2 : Nat), .int .i64 q5] 41)
    rw [hw6]
    have hb36 := btr hb3 (btr hb5 hb6)
    have HB6 : Hid (Below w.heap.size w w6) := btr HB1.out hb36
    obtain ⟨y0, y1, yf0, yf1⟩ := row2 (keepO G2.out hb36)
    obtain ⟨z0, z1, zf0, zf1⟩ := row2 (keepO G3.out hb36)
    have hS6 : w.heap.size + 1 + 1 < w5.heap.size := (Array.getElem?_eq_some_iff.1 (keepO G3.out (btr hb3 hb5))).1
    obtain ⟨S6, hS⟩ : ∃ S, w5.heap.size = S := ⟨_, rfl⟩
    rw [hS] at g6 hS6
    rw [hS]
    obtain ⟨s0, s1, s2, s3, s4, -⟩ := row5 g6
    have m1 : ¬ S6 = w.heap.size + 1 := by omega
    have m2 : ¬ S6 = w.heap.size + 1 + 1 := by omega
    clear hw6 hsz6 g6 hb6 hb5 hb3 hb36 hS x0 x1
    go_wp2_with fail
    go_region
    all_goals
      go_wp2_with fail
      refine bodyPost_ret (v := .tuple #[.agg #[.int .i64 (a1 : Nat), .int .i64 (a2 : Nat)], .agg #[.int .i64 (b1 : Nat), .int .i64 (b2 : Nat)], .int .i64 q5, .bool true]) ?_ rfl ⟨by rw [HV.out], ?_⟩
      · rw [results_cctt rfl]
        go_simp
      · have h2 := HB6.out
        (repeat' (first | with_reducible exact h2 | omega | with_reducible refine Below.drew ?_ | with_reducible refine setCell_below ?_ _ _ _ ?_))
end Go.Proofs.YthlhgkeodaifcaaDoor.U
