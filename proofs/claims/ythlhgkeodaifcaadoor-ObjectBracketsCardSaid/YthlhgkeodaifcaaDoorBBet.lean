/-
  The program's between: what is inside of two runes. (MADE by wip/tools/gen_bbet.py.)
-/
import Derived.Test.YthlhgkeodaifcaaDoorBBeA
import Derived.Test.YthlhgkeodaifcaaDoorBHand
namespace Go.Proofs.YthlhgkeodaifcaaDoor.U
open Go.RowKit
set_option linter.unusedVariables false
set_option linter.unusedSimpArgs false
set_option maxRecDepth 100000

theorem four4 (w : World) (o1 o2 o3 o4 : Obj) : ∃ w1, (((w.alloc o1).alloc o2).alloc o3).alloc o4 = w1 ∧ w1.heap.size = w.heap.size + 4 ∧ w1.heap[w.heap.size]? = some o1 ∧ w1.heap[w.heap.size + 1]? = some o2 ∧ w1.heap[w.heap.size + 1 + 1]? = some o3 ∧ w1.heap[w.heap.size + 1 + 1 + 1]? = some o4 ∧ Below w.heap.size w w1 := by
  obtain ⟨w0, hw0, hs0, g1, g2, g3, hb0⟩ := three3 w o1 o2 o3
  obtain ⟨w1, hw1, hs1, g4, hb1⟩ := lone w0 o4
  rw [hs0] at g4
  exact ⟨w1, by rw [hw0, hw1], by omega, keepO g1 hb1, keepO g2 hb1, keepO g3 hb1, g4, btr hb0 hb1⟩
/-- a region, as its value -/
abbrev regL (x1 x2 y1 y2 k : Int) : Value := .agg #[.int .i64 x1, .int .i64 x2, .int .i64 y1, .int .i64 y2, .int .i64 k]
/-- what lies in between's boxes, but for its result; what it is asked with alone -/
def BtQ (w : World) (A : Obj) (p1 p2 q1 q2 : Nat) (W : World) : Prop := Below w.heap.size w W ∧ W.heap[w.heap.size]? = some A ∧ W.heap[w.heap.size + 1]? = some (.cells #[.int .i64 (p1 : Nat), .int .i64 (p2 : Nat)] 24 (0, 0)) ∧ W.heap[w.heap.size + 1 + 1]? = some (.cells #[.int .i64 (q1 : Nat), .int .i64 (q2 : Nat)] 24 (0, 0))
theorem BtS.q {w W : World} {A : Obj} {p1 p2 q1 q2 : Nat} (h : BtS w A p1 p2 q1 q2 W) : BtQ w A p1 p2 q1 q2 W := ⟨h.1, h.2.1, h.2.2.1, h.2.2.2.1⟩
theorem BtQ.drew {w W : World} {A : Obj} {p1 p2 q1 q2 : Nat} (h : BtQ w A p1 p2 q1 q2 W) : BtQ w A p1 p2 q1 q2 W.drew := ⟨h.1.drew, h.2.1, h.2.2.1, h.2.2.2⟩
theorem BtQ.cells {w W : World} {A : Obj} {p1 p2 q1 q2 : Nat} (h : BtQ w A p1 p2 q1 q2 W) : W.cell? ⟨w.heap.size + 1, 0, none⟩ = some (.int .i64 (p1 : Nat)) ∧ W.cell? ⟨w.heap.size + 1, 1, none⟩ = some (.int .i64 (p2 : Nat)) ∧ W.cell? ⟨w.heap.size + 1 + 1, 0, none⟩ = some (.int .i64 (q1 : Nat)) ∧ W.cell? ⟨w.heap.size + 1 + 1, 1, none⟩ = some (.int .i64 (q2 : Nat)) :=
  ⟨(row2 h.2.2.1).1, (row2 h.2.2.1).2.1, (row2 h.2.2.2).1, (row2 h.2.2.2).2.1⟩
theorem BtQ.put {w W : World} {A : Obj} {p1 p2 q1 q2 : Nat} (h : BtQ w A p1 p2 q1 q2 W) (i : Nat) (v : Value) : BtQ w A p1 p2 q1 q2 (W.setCell ⟨w.heap.size + 1 + 1 + 1, i, none⟩ v) := by
  obtain ⟨h1, h2, h3, h4⟩ := h
  have k1 : ¬ w.heap.size = w.heap.size + 1 + 1 + 1 := by omega
  have k2 : ¬ w.heap.size + 1 = w.heap.size + 1 + 1 + 1 := by omega
  have k3 : ¬ w.heap.size + 1 + 1 = w.heap.size + 1 + 1 + 1 := by omega
  exact ⟨setCell_below h1 _ _ _ (by omega), (Below.heap_setCell _ _ _ _ k1).trans h2, (Below.heap_setCell _ _ _ _ k2).trans h3, (Below.heap_setCell _ _ _ _ k3).trans h4⟩
def BtA (w : World) (A : Obj) (W : World) : Prop := Below w.heap.size w W ∧ W.heap[w.heap.size]? = some A
theorem BtS.a {w W : World} {A : Obj} {p1 p2 q1 q2 : Nat} (h : BtS w A p1 p2 q1 q2 W) : BtA w A W := ⟨h.1, h.2.1⟩
theorem BtA.cells {w W : World} {a : Option Addr} {n c l q : Nat} {ar : Bool} (h : BtA w (askO a n c l q ar) W) : W.cell? ⟨w.heap.size, 0, none⟩ = some (.slice a n c) ∧ W.cell? ⟨w.heap.size, 1, none⟩ = some (.int .i64 (l : Nat)) ∧ W.cell? ⟨w.heap.size, 2, none⟩ = some (.int .i64 (q : Nat)) ∧ W.cell? ⟨w.heap.size, 3, none⟩ = some (.bool ar) := row4 h.2
theorem BtA.put {w W : World} {A : Obj} (h : BtA w A W) {g : Nat} (hg : w.heap.size < g) (i : Nat) (v : Value) : BtA w A (W.setCell ⟨g, i, none⟩ v) := by
  have k1 : ¬ w.heap.size = g := by omega
  exact ⟨setCell_below h.1 _ _ _ (by omega), (Below.heap_setCell _ _ _ _ k1).trans h.2⟩
set_option maxHeartbeats 2000000 in
theorem between_around (a : Option Addr) (n c l q : Nat) (p1 p2 q1 q2 : Nat) (w : World) :
    Calls Tryd.prog 40 #[askL a n c l q true, .agg #[.int .i64 (p1 : Nat), .int .i64 (p2 : Nat)], .agg #[.int .i64 (q1 : Nat), .int .i64 (q2 : Nat)]] w fun e w' => e = .returned (.tuple #[regL (p1 : Nat) (p2 : Nat) (q1 : Nat) (q2 : Nat) 0, .bool (!aheadP (q1, q2) (p1, p2))]) ∧ Below w.heap.size w w' := by
  obtain ⟨w1, hw1, hsz, g1, g2, g3, g4, hb1⟩ := four4 w (askO a n c l q true) (.cells #[.int .i64 (p1 : Nat), .int .i64 (p2 : Nat)] 24) (.cells #[.int .i64 (q1 : Nat), .int .i64 (q2 : Nat)] 24) (.cells #[.int .i64 0, .int .i64 0, .int .i64 0, .int .i64 0, .int .i64 0] 41)
  have HS1 : Hid (BtS w (askO a n c l q true) p1 p2 q1 q2 w1) := ⟨hb1, g1, g2, g3, g4⟩
  obtain ⟨r, hr⟩ : ∃ r, aheadP (q1, q2) (p1, p2) = r := ⟨_, rfl⟩
  have HBE : Hid (∀ W, Calls Tryd.prog 48 #[.agg #[.int .i64 (p1 : Nat), .int .i64 (p2 : Nat)], .agg #[.int .i64 (q1 : Nat), .int .i64 (q2 : Nat)]] W fun e w' => e = .returned (.bool r) ∧ Below W.heap.size W w') := fun W => by have := behind_b p1 p2 q1 q2 W; rw [hr] at this; exact this
  rw [hr]
  obtain ⟨⟨x0, x1, x2, x3⟩, -, -⟩ := HS1.out.cells
  have HW1 := Lib.hid hw1
  clear g1 g2 g3 g4 hw1 hb1 hr hsz
  go_enter Tryd.func40, Tryd.ntmps40
  go_upto_region 1 with fail
  rw [HW1.out]
  go_wp2_with fail
  refine wp_region_held (S := BtQ w (askO a n c l q true) p1 p2 q1 q2) (by kernel_rfl) ?_
  change wpAnyH _ _ _ _ _ _ _ _ (World.drew _)
  have hHA : (BtQ w (askO a n c l q true) p1 p2 q1 q2) (World.drew w1) := HS1.out.q.drew
  refine takeH 0 (some 17) (v := ?_) rfl rfl (by kernel_rfl) (by kernel_rfl) (by kernel_rfl) (fun _ _ _ h => h) (Or.inl ⟨by kernel_rfl, ?_⟩) hHA ?_
  rotate_left
  · intro w' hSw
    obtain ⟨s0, s1, s2, s3⟩ := hSw.cells
    go_simp
    try with_reducible rfl
  (try simp only [Act.put, List.setIfInBounds_toArray, List.set_cons_zero, List.set_cons_succ])
  refine takeH 1 (some 18) (v := ?_) rfl rfl (by kernel_rfl) (by kernel_rfl) (by kernel_rfl) (fun _ _ _ h => h) (Or.inl ⟨by kernel_rfl, ?_⟩) hHA ?_
  rotate_left
  · intro w' hSw
    obtain ⟨s0, s1, s2, s3⟩ := hSw.cells
    go_simp
    try with_reducible rfl
  (try simp only [Act.put, List.setIfInBounds_toArray, List.set_cons_zero, List.set_cons_succ])
  refine takeH 2 (some 19) (v := ?_) rfl rfl (by kernel_rfl) (by kernel_rfl) (by kernel_rfl) (fun _ _ _ h => h) (Or.inl ⟨by kernel_rfl, ?_⟩) hHA ?_
  rotate_left
  · intro w' hSw
    obtain ⟨s0, s1, s2, s3⟩ := hSw.cells
    go_simp
    try with_reducible rfl
  (try simp only [Act.put, List.setIfInBounds_toArray, List.set_cons_zero, List.set_cons_succ])
  refine takeH 3 (some 20) (v := ?_) rfl rfl (by kernel_rfl) (by kernel_rfl) (by kernel_rfl) (fun _ _ _ h => h) (Or.inl ⟨by kernel_rfl, ?_⟩) hHA ?_
  rotate_left
  · intro w' hSw
    obtain ⟨s0, s1, s2, s3⟩ := hSw.cells
    go_simp
    try with_reducible rfl
  (try simp only [Act.put, List.setIfInBounds_toArray, List.set_cons_zero, List.set_cons_succ])
  refine takeH 4 (some 21) (v := ?_) rfl rfl (by kernel_rfl) (by kernel_rfl) (by kernel_rfl) (fun _ _ _ h => h) (Or.inl ⟨by kernel_rfl, ?_⟩) hHA ?_
  rotate_left
  · intro w' hSw
    obtain ⟨s0, s1, s2, s3⟩ := hSw.cells
    go_simp
    try with_reducible rfl
  (try simp only [Act.put, List.setIfInBounds_toArray, List.set_cons_zero, List.set_cons_succ])
  refine callH 5 (some 22) (f := 48) (args := ?_) rfl rfl (by kernel_rfl) (by kernel_rfl) ?_ ?_
  rotate_left
  · go_simp
    try with_reducible rfl
  refine (HBE.out _).mono ?_
  rintro e vA1 ⟨rfl, hbA⟩
  have hsA := HS1.out.drew.below hbA
  obtain ⟨r0, r1, r2, r3, r4, rf0, rf1, rf2, rf3, rf4⟩ := row5 hsA.2.2.2.2
  have hHA1 := hsA.q
  refine ⟨_, rfl, hHA1, ?_⟩
  (try simp only [Act.put, List.setIfInBounds_toArray, List.set_cons_zero, List.set_cons_succ])
  refine takeH 6 (some 23) (v := ?_) rfl rfl (by kernel_rfl) (by kernel_rfl) (by kernel_rfl) (fun _ _ _ h => h) (Or.inl ⟨by kernel_rfl, ?_⟩) hHA1 ?_
  rotate_left
  · intro w' hSw
    obtain ⟨s0, s1, s2, s3⟩ := hSw.cells
    go_simp
    try with_reducible rfl
  (try simp only [Act.put, List.setIfInBounds_toArray, List.set_cons_zero, List.set_cons_succ])
  have hHA12 : (BtQ w (askO a n c l q true) p1 p2 q1 q2) ((((((vA1.setCell ⟨w.heap.size + 1 + 1 + 1, 0, none⟩ (.int .i64 (p1 : Nat))).setCell ⟨w.heap.size + 1 + 1 + 1, 1, none⟩ (.int .i64 (p2 : Nat))).setCell ⟨w.heap.size + 1 + 1 + 1, 2, none⟩ (.int .i64 (q1 : Nat))).setCell ⟨w.heap.size + 1 + 1 + 1, 3, none⟩ (.int .i64 (q2 : Nat))).setCell ⟨w.heap.size + 1 + 1 + 1, 4, none⟩ (.int .i64 0))) := ((((hHA1.put 0 _).put 1 _).put 2 _).put 3 _).put 4 _
  refine storeH 7 (w' := (((((vA1.setCell ⟨w.heap.size + 1 + 1 + 1, 0, none⟩ (.int .i64 (p1 : Nat))).setCell ⟨w.heap.size + 1 + 1 + 1, 1, none⟩ (.int .i64 (p2 : Nat))).setCell ⟨w.heap.size + 1 + 1 + 1, 2, none⟩ (.int .i64 (q1 : Nat))).setCell ⟨w.heap.size + 1 + 1 + 1, 3, none⟩ (.int .i64 (q2 : Nat))).setCell ⟨w.heap.size + 1 + 1 + 1, 4, none⟩ (.int .i64 0))) rfl rfl (by kernel_rfl) (by kernel_rfl) ?_ hHA12 ?_
  · go_simp
    try rfl
  (try simp only [Act.put, List.setIfInBounds_toArray, List.set_cons_zero, List.set_cons_succ])
  have HEND := hHA12
  refine takeH 8 (some 7) (v := ?_) rfl rfl (by kernel_rfl) (by kernel_rfl) (by kernel_rfl) (fun _ _ _ h => h) (Or.inl ⟨by kernel_rfl, ?_⟩) hHA12 ?_
  rotate_left
  · intro w' hSw
    obtain ⟨s0, s1, s2, s3⟩ := hSw.cells
    go_simp
    try with_reducible rfl
  (try simp only [Act.put, List.setIfInBounds_toArray, List.set_cons_zero, List.set_cons_succ])
  refine wpAnyH_done (by kernel_rfl) ?_ _
  clear r0 r1 r2 r3 r4 rf0 rf1 rf2 rf3 rf4
  obtain ⟨e0, e1, e2, e3, e4, -⟩ := row5 (heap_set (heap_set (heap_set (heap_set (heap_set hsA.2.2.2.2 0 (.int .i64 (p1 : Nat))) 1 (.int .i64 (p2 : Nat))) 2 (.int .i64 (q1 : Nat))) 3 (.int .i64 (q2 : Nat))) 4 (.int .i64 0))
  go_wp2_with fail
  refine bodyPost_ret (v := .tuple #[regL (p1 : Nat) (p2 : Nat) (q1 : Nat) (q2 : Nat) 0, .bool (!r)]) ?_ rfl ⟨rfl, HEND.1⟩
  rw [results_ct rfl]
  go_simp
set_option maxHeartbeats 4000000 in
theorem between_inner (F : Nat → Prop) (a : Option Addr) (n c l q : Nat) (L : List (List Int)) (p1 p2 q1 q2 : Nat) (w : World) (h : RdL F w a n c L) (hp : p1 < n) (hp2 : p2 + 1 ≤ (lnL L p1).length) (hq1 : q1 < n) (hq2 : q2 ≤ (lnL L q1).length) :
    Calls Tryd.prog 40 #[askL a n c l q false, .agg #[.int .i64 (p1 : Nat), .int .i64 (p2 : Nat)], .agg #[.int .i64 (q1 : Nat), .int .i64 (q2 : Nat)]] w fun e w' => e = .returned (.tuple #[regL ((behPl L (p1, p2)).1 : Nat) ((behPl L (p1, p2)).2 : Nat) ((ahePl L (q1, q2)).1 : Nat) ((ahePl L (q1, q2)).2 : Nat) 0, .bool (!aheadP (ahePl L (q1, q2)) (behPl L (p1, p2)))]) ∧ Below w.heap.size w w' := by
  obtain ⟨w1, hw1, hsz, g1, g2, g3, g4, hb1⟩ := four4 w (askO a n c l q false) (.cells #[.int .i64 (p1 : Nat), .int .i64 (p2 : Nat)] 24) (.cells #[.int .i64 (q1 : Nat), .int .i64 (q2 : Nat)] 24) (.cells #[.int .i64 0, .int .i64 0, .int .i64 0, .int .i64 0, .int .i64 0] 41)
  have HS1 : Hid (BtS w (askO a n c l q false) p1 p2 q1 q2 w1) := ⟨hb1, g1, g2, g3, g4⟩
  have HB : Hid (∀ W, Below w.heap.size w W → Calls Tryd.prog 46 #[askL a n c l q false, .agg #[.int .i64 (p1 : Nat), .int .i64 (p2 : Nat)]] W fun e w' => e = .returned (plV (behPl L (p1, p2))) ∧ Below W.heap.size W w') := fun W hW => abehind_any F a n c l q false L p1 p2 W (h.below hW) hp hp2
  have HA : Hid (∀ W, Below w.heap.size w W → Calls Tryd.prog 47 #[askL a n c l q false, .agg #[.int .i64 (q1 : Nat), .int .i64 (q2 : Nat)]] W fun e w' => e = .returned (plV (ahePl L (q1, q2))) ∧ Below W.heap.size W w') := fun W hW => aahead_any F a n c l q false L q1 q2 W (h.below hW) hq1 hq2
  obtain ⟨⟨f1, f2⟩, hf⟩ : ∃ y, behPl L (p1, p2) = y := ⟨_, rfl⟩
  obtain ⟨⟨t1, t2⟩, ht⟩ : ∃ y, ahePl L (q1, q2) = y := ⟨_, rfl⟩
  rw [hf] at HB
  rw [ht] at HA
  rw [hf, ht]
  unfold plV at HA HB
  simp only at HA HB ⊢
  obtain ⟨r, hr⟩ : ∃ r, aheadP (t1, t2) (f1, f2) = r := ⟨_, rfl⟩
  have HBE : Hid (∀ W, Calls Tryd.prog 48 #[.agg #[.int .i64 (f1 : Nat), .int .i64 (f2 : Nat)], .agg #[.int .i64 (t1 : Nat), .int .i64 (t2 : Nat)]] W fun e w' => e = .returned (.bool r) ∧ Below W.heap.size W w') := fun W => by have := behind_b f1 f2 t1 t2 W; rw [hr] at this; exact this
  rw [hr]
  obtain ⟨⟨x0, x1, x2, x3⟩, ⟨y0, y1, yf0, yf1⟩, ⟨z0, z1, zf0, zf1⟩⟩ := HS1.out.cells
  have HW1 := Lib.hid hw1
  clear g1 g2 g3 g4 hw1 hb1 hr hsz hf ht h hp hp2 hq1 hq2
  go_enter Tryd.func40, Tryd.ntmps40
  go_upto_region 1 with fail
  rw [HW1.out]
  go_upto_region 2 with fail
  go_cut [16] from 11 to 16 (fun v1 wx => Hid (BtS w (askO a n c l q false) f1 f2 t1 t2 wx))
  case first =>
    refine wp_region_held (S := BtA w (askO a n c l q false)) (by kernel_rfl) ?_
    change wpAnyH _ _ _ _ _ _ _ _ (World.drew _)
    have hs0 := HS1.out.drew
    have hH : (BtA w (askO a n c l q false)) (World.drew w1) := hs0.a
    refine takeH 0 (some 11) (v := ?_) rfl rfl (by kernel_rfl) (by kernel_rfl) (by kernel_rfl) (fun _ _ _ h => h) (Or.inl ⟨by kernel_rfl, ?_⟩) hH ?_
    rotate_left
    · intro w' hSw
      obtain ⟨s0, s1, s2, s3⟩ := hSw.cells
      go_simp
      try with_reducible rfl
    (try simp only [Act.put, List.setIfInBounds_toArray, List.set_cons_zero, List.set_cons_succ])
    refine takeH 3 (some 14) (v := ?_) rfl rfl (by kernel_rfl) (by kernel_rfl) (by kernel_rfl) (fun _ _ _ h => h) (Or.inl ⟨by kernel_rfl, ?_⟩) hH ?_
    rotate_left
    · intro w' hSw
      obtain ⟨s0, s1, s2, s3⟩ := hSw.cells
      go_simp
      try with_reducible rfl
    (try simp only [Act.put, List.setIfInBounds_toArray, List.set_cons_zero, List.set_cons_succ])
    refine any2 1 4 (by kernel_rfl) ?_ ?_
    · skip
      refine opRun 1 (some 12) (v := .agg #[.int .i64 (p1 : Nat), .int .i64 (p2 : Nat)]) rfl rfl (by kernel_rfl) ?_ ⟨hs0.a, ?_⟩
      · obtain ⟨-, ⟨b0, b1, -, -⟩, ⟨c0, c1, -, -⟩⟩ := hs0.cells
        clear y0 y1 z0 z1
        go_simp
        try with_reducible rfl
      (try simp only [Act.put, List.setIfInBounds_toArray, List.set_cons_zero, List.set_cons_succ])
      refine any2 2 4 (by kernel_rfl) ?_ ?_
      · skip
        refine opCall 2 (some 13) (f := 46) (args := ?_) rfl rfl (by kernel_rfl) ?_ ?_
        rotate_left
        · go_simp
          try with_reducible rfl
        refine (HB.out _ hs0.1).mono ?_
        rintro e u1 ⟨rfl, hbu1⟩
        have hsu1 := hs0.below hbu1
        refine ⟨_, rfl, hsu1.a, ?_⟩
        (try simp only [Act.put, List.setIfInBounds_toArray, List.set_cons_zero, List.set_cons_succ])
        refine any1 4 (by kernel_rfl) ?_
        refine opRun 4 (some 15) (v := .agg #[.int .i64 (q1 : Nat), .int .i64 (q2 : Nat)]) rfl rfl (by kernel_rfl) ?_ ⟨hsu1.a, ?_⟩
        · obtain ⟨-, ⟨b0, b1, -, -⟩, ⟨c0, c1, -, -⟩⟩ := hsu1.cells
          clear y0 y1 z0 z1
          go_simp
          try with_reducible rfl
        (try simp only [Act.put, List.setIfInBounds_toArray, List.set_cons_zero, List.set_cons_succ])
        refine any1 5 (by kernel_rfl) ?_
        refine opCall 5 (some 16) (f := 47) (args := ?_) rfl rfl (by kernel_rfl) ?_ ?_
        rotate_left
        · go_simp
          try with_reducible rfl
        refine (HA.out _ hsu1.1).mono ?_
        rintro e u2 ⟨rfl, hbu2⟩
        have hsu2 := hsu1.below hbu2
        refine ⟨_, rfl, hsu2.a, ?_⟩
        (try simp only [Act.put, List.setIfInBounds_toArray, List.set_cons_zero, List.set_cons_succ])
        obtain ⟨-, ⟨b0, b1, bf0, bf1⟩, ⟨c0, c1, cf0, cf1⟩⟩ := hsu2.cells
        clear y0 y1 z0 z1 yf0 yf1 zf0 zf1
        have hput := hsu2.put f1 f2 t1 t2
        refine storeH 6 (w' := ((u2.setCell ⟨w.heap.size + 1, 0, none⟩ (.int .i64 (f1 : Nat))).setCell ⟨w.heap.size + 1, 1, none⟩ (.int .i64 (f2 : Nat)))) rfl rfl (by kernel_rfl) (by kernel_rfl) ?_ ((hsu2.a.put (by omega) 0 _).put (by omega) 1 _) ?_
        · go_simp
          try rfl
        (try simp only [Act.put, List.setIfInBounds_toArray, List.set_cons_zero, List.set_cons_succ])
        refine storeH 7 (w' := ((((u2.setCell ⟨w.heap.size + 1, 0, none⟩ (.int .i64 (f1 : Nat))).setCell ⟨w.heap.size + 1, 1, none⟩ (.int .i64 (f2 : Nat))).setCell ⟨w.heap.size + 1 + 1, 0, none⟩ (.int .i64 (t1 : Nat))).setCell ⟨w.heap.size + 1 + 1, 1, none⟩ (.int .i64 (t2 : Nat)))) rfl rfl (by kernel_rfl) (by kernel_rfl) ?_ hput.a ?_
        · go_simp
          try rfl
        (try simp only [Act.put, List.setIfInBounds_toArray, List.set_cons_zero, List.set_cons_succ])
        refine wpAnyH_done (by kernel_rfl) ?_ _
        go_wp2_with fail
        go_meet
        exact Lib.hid hput
      · skip
        refine opRun 4 (some 15) (v := .agg #[.int .i64 (q1 : Nat), .int .i64 (q2 : Nat)]) rfl rfl (by kernel_rfl) ?_ ⟨hs0.a, ?_⟩
        · obtain ⟨-, ⟨b0, b1, -, -⟩, ⟨c0, c1, -, -⟩⟩ := hs0.cells
          clear y0 y1 z0 z1
          go_simp
          try with_reducible rfl
        (try simp only [Act.put, List.setIfInBounds_toArray, List.set_cons_zero, List.set_cons_succ])
        refine any1 2 (by kernel_rfl) ?_
        refine opCall 2 (some 13) (f := 46) (args := ?_) rfl rfl (by kernel_rfl) ?_ ?_
        rotate_left
        · go_simp
          try with_reducible rfl
        refine (HB.out _ hs0.1).mono ?_
        rintro e u1 ⟨rfl, hbu1⟩
        have hsu1 := hs0.below hbu1
        refine ⟨_, rfl, hsu1.a, ?_⟩
        (try simp only [Act.put, List.setIfInBounds_toArray, List.set_cons_zero, List.set_cons_succ])
        refine any1 5 (by kernel_rfl) ?_
        refine opCall 5 (some 16) (f := 47) (args := ?_) rfl rfl (by kernel_rfl) ?_ ?_
        rotate_left
        · go_simp
          try with_reducible rfl
        refine (HA.out _ hsu1.1).mono ?_
        rintro e u2 ⟨rfl, hbu2⟩
        have hsu2 := hsu1.below hbu2
        refine ⟨_, rfl, hsu2.a, ?_⟩
        (try simp only [Act.put, List.setIfInBounds_toArray, List.set_cons_zero, List.set_cons_succ])
        obtain ⟨-, ⟨b0, b1, bf0, bf1⟩, ⟨c0, c1, cf0, cf1⟩⟩ := hsu2.cells
        clear y0 y1 z0 z1 yf0 yf1 zf0 zf1
        have hput := hsu2.put f1 f2 t1 t2
        refine storeH 6 (w' := ((u2.setCell ⟨w.heap.size + 1, 0, none⟩ (.int .i64 (f1 : Nat))).setCell ⟨w.heap.size + 1, 1, none⟩ (.int .i64 (f2 : Nat)))) rfl rfl (by kernel_rfl) (by kernel_rfl) ?_ ((hsu2.a.put (by omega) 0 _).put (by omega) 1 _) ?_
        · go_simp
          try rfl
        (try simp only [Act.put, List.setIfInBounds_toArray, List.set_cons_zero, List.set_cons_succ])
        refine storeH 7 (w' := ((((u2.setCell ⟨w.heap.size + 1, 0, none⟩ (.int .i64 (f1 : Nat))).setCell ⟨w.heap.size + 1, 1, none⟩ (.int .i64 (f2 : Nat))).setCell ⟨w.heap.size + 1 + 1, 0, none⟩ (.int .i64 (t1 : Nat))).setCell ⟨w.heap.size + 1 + 1, 1, none⟩ (.int .i64 (t2 : Nat)))) rfl rfl (by kernel_rfl) (by kernel_rfl) ?_ hput.a ?_
        · go_simp
          try rfl
        (try simp only [Act.put, List.setIfInBounds_toArray, List.set_cons_zero, List.set_cons_succ])
        refine wpAnyH_done (by kernel_rfl) ?_ _
        go_wp2_with fail
        go_meet
        exact Lib.hid hput
    · skip
      refine opRun 4 (some 15) (v := .agg #[.int .i64 (q1 : Nat), .int .i64 (q2 : Nat)]) rfl rfl (by kernel_rfl) ?_ ⟨hs0.a, ?_⟩
      · obtain ⟨-, ⟨b0, b1, -, -⟩, ⟨c0, c1, -, -⟩⟩ := hs0.cells
        clear y0 y1 z0 z1
        go_simp
        try with_reducible rfl
      (try simp only [Act.put, List.setIfInBounds_toArray, List.set_cons_zero, List.set_cons_succ])
      refine any1 1 (by kernel_rfl) ?_
      refine opRun 1 (some 12) (v := .agg #[.int .i64 (p1 : Nat), .int .i64 (p2 : Nat)]) rfl rfl (by kernel_rfl) ?_ ⟨hs0.a, ?_⟩
      · obtain ⟨-, ⟨b0, b1, -, -⟩, ⟨c0, c1, -, -⟩⟩ := hs0.cells
        clear y0 y1 z0 z1
        go_simp
        try with_reducible rfl
      (try simp only [Act.put, List.setIfInBounds_toArray, List.set_cons_zero, List.set_cons_succ])
      refine any1 2 (by kernel_rfl) ?_
      refine opCall 2 (some 13) (f := 46) (args := ?_) rfl rfl (by kernel_rfl) ?_ ?_
      rotate_left
      · go_simp
        try with_reducible rfl
      refine (HB.out _ hs0.1).mono ?_
      rintro e u1 ⟨rfl, hbu1⟩
      have hsu1 := hs0.below hbu1
      refine ⟨_, rfl, hsu1.a, ?_⟩
      (try simp only [Act.put, List.setIfInBounds_toArray, List.set_cons_zero, List.set_cons_succ])
      refine any1 5 (by kernel_rfl) ?_
      refine opCall 5 (some 16) (f := 47) (args := ?_) rfl rfl (by kernel_rfl) ?_ ?_
      rotate_left
      · go_simp
        try with_reducible rfl
      refine (HA.out _ hsu1.1).mono ?_
      rintro e u2 ⟨rfl, hbu2⟩
      have hsu2 := hsu1.below hbu2
      refine ⟨_, rfl, hsu2.a, ?_⟩
      (try simp only [Act.put, List.setIfInBounds_toArray, List.set_cons_zero, List.set_cons_succ])
      obtain ⟨-, ⟨b0, b1, bf0, bf1⟩, ⟨c0, c1, cf0, cf1⟩⟩ := hsu2.cells
      clear y0 y1 z0 z1 yf0 yf1 zf0 zf1
      have hput := hsu2.put f1 f2 t1 t2
      refine storeH 6 (w' := ((u2.setCell ⟨w.heap.size + 1, 0, none⟩ (.int .i64 (f1 : Nat))).setCell ⟨w.heap.size + 1, 1, none⟩ (.int .i64 (f2 : Nat)))) rfl rfl (by kernel_rfl) (by kernel_rfl) ?_ ((hsu2.a.put (by omega) 0 _).put (by omega) 1 _) ?_
      · go_simp
        try rfl
      (try simp only [Act.put, List.setIfInBounds_toArray, List.set_cons_zero, List.set_cons_succ])
      refine storeH 7 (w' := ((((u2.setCell ⟨w.heap.size + 1, 0, none⟩ (.int .i64 (f1 : Nat))).setCell ⟨w.heap.size + 1, 1, none⟩ (.int .i64 (f2 : Nat))).setCell ⟨w.heap.size + 1 + 1, 0, none⟩ (.int .i64 (t1 : Nat))).setCell ⟨w.heap.size + 1 + 1, 1, none⟩ (.int .i64 (t2 : Nat)))) rfl rfl (by kernel_rfl) (by kernel_rfl) ?_ hput.a ?_
      · go_simp
        try rfl
      (try simp only [Act.put, List.setIfInBounds_toArray, List.set_cons_zero, List.set_cons_succ])
      refine wpAnyH_done (by kernel_rfl) ?_ _
      go_wp2_with fail
      go_meet
      exact Lib.hid hput
  case rest =>
    have HS2 := hcut
    obtain ⟨wq, hwq⟩ : ∃ x, x = wc := ⟨_, rfl⟩
    subst hwq
    clear x0 x1 x2 x3 y0 y1 yf0 yf1 z0 z1 zf0 zf1
    obtain ⟨⟨x0, x1, x2, x3⟩, -, -⟩ := HS2.out.cells
    go_wp2_with fail
    refine wp_region_held (S := BtQ w (askO a n c l q false) f1 f2 t1 t2) (by kernel_rfl) ?_
    change wpAnyH _ _ _ _ _ _ _ _ (World.drew _)
    have hHC : (BtQ w (askO a n c l q false) f1 f2 t1 t2) (World.drew wq) := HS2.out.q.drew
    refine takeH 0 (some 17) (v := ?_) rfl rfl (by kernel_rfl) (by kernel_rfl) (by kernel_rfl) (fun _ _ _ h => h) (Or.inl ⟨by kernel_rfl, ?_⟩) hHC ?_
    rotate_left
    · intro w' hSw
      obtain ⟨s0, s1, s2, s3⟩ := hSw.cells
      go_simp
      try with_reducible rfl
    (try simp only [Act.put, List.setIfInBounds_toArray, List.set_cons_zero, List.set_cons_succ])
    refine takeH 1 (some 18) (v := ?_) rfl rfl (by kernel_rfl) (by kernel_rfl) (by kernel_rfl) (fun _ _ _ h => h) (Or.inl ⟨by kernel_rfl, ?_⟩) hHC ?_
    rotate_left
    · intro w' hSw
      obtain ⟨s0, s1, s2, s3⟩ := hSw.cells
      go_simp
      try with_reducible rfl
    (try simp only [Act.put, List.setIfInBounds_toArray, List.set_cons_zero, List.set_cons_succ])
    refine takeH 2 (some 19) (v := ?_) rfl rfl (by kernel_rfl) (by kernel_rfl) (by kernel_rfl) (fun _ _ _ h => h) (Or.inl ⟨by kernel_rfl, ?_⟩) hHC ?_
    rotate_left
    · intro w' hSw
      obtain ⟨s0, s1, s2, s3⟩ := hSw.cells
      go_simp
      try with_reducible rfl
    (try simp only [Act.put, List.setIfInBounds_toArray, List.set_cons_zero, List.set_cons_succ])
    refine takeH 3 (some 20) (v := ?_) rfl rfl (by kernel_rfl) (by kernel_rfl) (by kernel_rfl) (fun _ _ _ h => h) (Or.inl ⟨by kernel_rfl, ?_⟩) hHC ?_
    rotate_left
    · intro w' hSw
      obtain ⟨s0, s1, s2, s3⟩ := hSw.cells
      go_simp
      try with_reducible rfl
    (try simp only [Act.put, List.setIfInBounds_toArray, List.set_cons_zero, List.set_cons_succ])
    refine takeH 4 (some 21) (v := ?_) rfl rfl (by kernel_rfl) (by kernel_rfl) (by kernel_rfl) (fun _ _ _ h => h) (Or.inl ⟨by kernel_rfl, ?_⟩) hHC ?_
    rotate_left
    · intro w' hSw
      obtain ⟨s0, s1, s2, s3⟩ := hSw.cells
      go_simp
      try with_reducible rfl
    (try simp only [Act.put, List.setIfInBounds_toArray, List.set_cons_zero, List.set_cons_succ])
    refine callH 5 (some 22) (f := 48) (args := ?_) rfl rfl (by kernel_rfl) (by kernel_rfl) ?_ ?_
    rotate_left
    · go_simp
      try with_reducible rfl
    refine (HBE.out _).mono ?_
    rintro e vC1 ⟨rfl, hbC⟩
    have hsC := HS2.out.drew.below hbC
    obtain ⟨r0, r1, r2, r3, r4, rf0, rf1, rf2, rf3, rf4⟩ := row5 hsC.2.2.2.2
    have hHC1 := hsC.q
    refine ⟨_, rfl, hHC1, ?_⟩
    (try simp only [Act.put, List.setIfInBounds_toArray, List.set_cons_zero, List.set_cons_succ])
    refine takeH 6 (some 23) (v := ?_) rfl rfl (by kernel_rfl) (by kernel_rfl) (by kernel_rfl) (fun _ _ _ h => h) (Or.inl ⟨by kernel_rfl, ?_⟩) hHC1 ?_
    rotate_left
    · intro w' hSw
      obtain ⟨s0, s1, s2, s3⟩ := hSw.cells
      go_simp
      try with_reducible rfl
    (try simp only [Act.put, List.setIfInBounds_toArray, List.set_cons_zero, List.set_cons_succ])
    have hHC12 : (BtQ w (askO a n c l q false) f1 f2 t1 t2) ((((((vC1.setCell ⟨w.heap.size + 1 + 1 + 1, 0, none⟩ (.int .i64 (f1 : Nat))).setCell ⟨w.heap.size + 1 + 1 + 1, 1, none⟩ (.int .i64 (f2 : Nat))).setCell ⟨w.heap.size + 1 + 1 + 1, 2, none⟩ (.int .i64 (t1 : Nat))).setCell ⟨w.heap.size + 1 + 1 + 1, 3, none⟩ (.int .i64 (t2 : Nat))).setCell ⟨w.heap.size + 1 + 1 + 1, 4, none⟩ (.int .i64 0))) := ((((hHC1.put 0 _).put 1 _).put 2 _).put 3 _).put 4 _
    refine storeH 7 (w' := (((((vC1.setCell ⟨w.heap.size + 1 + 1 + 1, 0, none⟩ (.int .i64 (f1 : Nat))).setCell ⟨w.heap.size + 1 + 1 + 1, 1, none⟩ (.int .i64 (f2 : Nat))).setCell ⟨w.heap.size + 1 + 1 + 1, 2, none⟩ (.int .i64 (t1 : Nat))).setCell ⟨w.heap.size + 1 + 1 + 1, 3, none⟩ (.int .i64 (t2 : Nat))).setCell ⟨w.heap.size + 1 + 1 + 1, 4, none⟩ (.int .i64 0))) rfl rfl (by kernel_rfl) (by kernel_rfl) ?_ hHC12 ?_
    · go_simp
      try rfl
    (try simp only [Act.put, List.setIfInBounds_toArray, List.set_cons_zero, List.set_cons_succ])
    have HEND := hHC12
    refine takeH 8 (some 7) (v := ?_) rfl rfl (by kernel_rfl) (by kernel_rfl) (by kernel_rfl) (fun _ _ _ h => h) (Or.inl ⟨by kernel_rfl, ?_⟩) hHC12 ?_
    rotate_left
    · intro w' hSw
      obtain ⟨s0, s1, s2, s3⟩ := hSw.cells
      go_simp
      try with_reducible rfl
    (try simp only [Act.put, List.setIfInBounds_toArray, List.set_cons_zero, List.set_cons_succ])
    refine wpAnyH_done (by kernel_rfl) ?_ _
    clear r0 r1 r2 r3 r4 rf0 rf1 rf2 rf3 rf4
    obtain ⟨e0, e1, e2, e3, e4, -⟩ := row5 (heap_set (heap_set (heap_set (heap_set (heap_set hsC.2.2.2.2 0 (.int .i64 (f1 : Nat))) 1 (.int .i64 (f2 : Nat))) 2 (.int .i64 (t1 : Nat))) 3 (.int .i64 (t2 : Nat))) 4 (.int .i64 0))
    go_wp2_with fail
    refine bodyPost_ret (v := .tuple #[regL (f1 : Nat) (f2 : Nat) (t1 : Nat) (t2 : Nat) 0, .bool (!r)]) ?_ rfl ⟨rfl, HEND.1⟩
    rw [results_ct rfl]
    go_simp
end Go.Proofs.YthlhgkeodaifcaaDoor.U
