/-
  Where the lines' motions lead: h, l, j, k, +, -, _, G, g, 0, ^, $, |. (MADE by wip/tools/gen_lead.py.)
-/
import Derived.Test.YtikdojebnbmpoaaOAskB
import Derived.Test.YtikdojebnbmpoaaRHand
namespace Go.Proofs.Ytikdojebnbmpoaa.U
open Go.RowKit
set_option linter.unusedVariables false
set_option linter.unusedSimpArgs false
set_option maxRecDepth 100000

section
variable {P : Program} {ops : Array Oper} {Q : Exit → Act → World → Prop} {md : Region.Mode} {S : World → Prop}
/-- a store, the one operation that may come up -/
theorem storeH (i : Nat) {oi : Oper} {fuel : Nat} {listed : Array Bool} {a : Act} {w w' : World} (hi : ops[i]? = some oi) (hd : oi.dst = none)
    (hr : Region.ready md ops listed = [i]) (hw : Region.wanted oi (yielded ops a.tmps) = true) (hrun : (execOp a.eval oi).run P w = .ok .skip w') (hS : S w')
    (h : wpAnyH P md ops Q S fuel (listed.setIfInBounds i true) a w') : wpAnyH P md ops Q S (fuel + 1) listed a w := by
  refine wpAnyH_all hr (by simp) (fun j hj => ?_)
  rw [List.mem_singleton] at hj
  subst hj
  unfold wpOp
  simp only [hi, hw, if_true]
  left
  unfold Oper.wp
  rw [hrun, Oper.upon_skip, hd]
  exact ⟨hS, h⟩
end
theorem min_nat (a b : Nat) : min (a : Int) (b : Int) = ((min a b : Nat) : Int) := by omega
/-- what lies in the boxes of a method that leads: what it is asked with, and its result's place -/
def AkS (w : World) (A : Obj) (W : World) : Prop := Below w.heap.size w W ∧ W.heap[w.heap.size]? = some A ∧ ∃ v0 v1, W.heap[w.heap.size + 1]? = some (.cells #[v0, v1] 24 (0, 0))
theorem AkS.below {w W W2 : World} {A : Obj} (h : AkS w A W) (hb : Below W.heap.size W W2) : AkS w A W2 := by
  obtain ⟨h1, h2, v0, v1, h3⟩ := h
  exact ⟨h1.trans (hb.mono h1.size), (hb.block _ (Array.getElem?_eq_some_iff.1 h2).1).trans h2, v0, v1, (hb.block _ (Array.getElem?_eq_some_iff.1 h3).1).trans h3⟩
theorem AkS.drew {w W : World} {A : Obj} (h : AkS w A W) : AkS w A W.drew := h.below ((Below.refl _ W).drew)
theorem AkS.store {w W : World} {A : Obj} (h : AkS w A W) (x y : Value) : AkS w A ((W.setCell ⟨w.heap.size + 1, 0, none⟩ x).setCell ⟨w.heap.size + 1, 1, none⟩ y) := by
  obtain ⟨h1, h2, v0, v1, h3⟩ := h
  refine ⟨setCell_below (setCell_below h1 _ _ _ (by omega)) _ _ _ (by omega), ?_, x, y, ?_⟩
  · exact (Below.heap_setCell _ _ _ _ (by show ¬ _ = _; simp)).trans ((Below.heap_setCell _ _ _ _ (by show ¬ _ = _; simp)).trans h2)
  · exact heap_set (heap_set h3 0 x) 1 y
theorem AkS.pos {w W : World} {A : Obj} (h : AkS w A W) : ∃ v0 v1, W.cell? ⟨w.heap.size + 1, 0, none⟩ = some v0 ∧ W.cell? ⟨w.heap.size + 1, 1, none⟩ = some v1 ∧ W.frozen? ⟨w.heap.size + 1, 0, none⟩ = false ∧ W.frozen? ⟨w.heap.size + 1, 1, none⟩ = false := by
  obtain ⟨h1, h2, v0, v1, h3⟩ := h
  exact ⟨v0, v1, row2 h3⟩
theorem AkS.cells {w W : World} {a : Option Addr} {n c l q : Nat} {k key cnt arg want : Int} {op : Bool} (h : AkS w (askO a n c l q k key cnt arg want op) W) :
    W.cell? ⟨w.heap.size, 0, none⟩ = some (.slice a n c) ∧ W.cell? ⟨w.heap.size, 1, none⟩ = some (.int .i64 (l : Nat)) ∧ W.cell? ⟨w.heap.size, 2, none⟩ = some (.int .i64 (q : Nat)) ∧ W.cell? ⟨w.heap.size, 3, none⟩ = some (.int .i64 k) ∧ W.cell? ⟨w.heap.size, 4, none⟩ = some (.int .i32 key) ∧ W.cell? ⟨w.heap.size, 5, none⟩ = some (.int .i64 cnt) ∧ W.cell? ⟨w.heap.size, 6, none⟩ = some (.int .i32 arg) ∧ W.cell? ⟨w.heap.size, 7, none⟩ = some (.int .i64 want) ∧ W.cell? ⟨w.heap.size, 8, none⟩ = some (.bool op) := row9 h.2.1
theorem lead_start (w : World) (A : Obj) : ∃ w1, (w.alloc A).alloc (.cells #[.int .i64 0, .int .i64 0] 24) = w1 ∧ AkS w A w1 := by
  obtain ⟨w1, hw1, hsz, g1, g2, hb1⟩ := two2 w A (.cells #[.int .i64 0, .int .i64 0] 24)
  exact ⟨w1, hw1, hb1, g1, _, _, g2⟩
set_option maxHeartbeats 1000000 in
theorem left_any (a : Option Addr) (n c l q : Nat) (t : Nat) (key cnt arg want : Int) (op : Bool) (w : World) (ht : (t : Int) ≤ 9223372036854775807) (hq : (q : Int) ≤ 9223372036854775807) :
    Calls Try.prog 16 #[askL a n c l q (t : Nat) key cnt arg want op] w fun e w' => e = .returned (.tuple #[plV (l, q - t), .bool (decide (0 < q))]) ∧ Below w.heap.size w w' := by
  have m0 := min_nat t q
  obtain ⟨s, hs⟩ : ∃ s, min t q = s := ⟨_, rfl⟩
  rw [hs] at m0
  obtain ⟨d, hd⟩ : ∃ d, q - t = d := ⟨_, rfl⟩
  have m1 : (q : Int) - (s : Int) = (d : Int) := by omega
  have m2 : (d : Int) ≤ 9223372036854775807 := by omega
  have m4 : IntKind.i64.wrap (d : Int) = (d : Int) := by rw [IntKind.wrap_i64]; omega
  obtain ⟨b, hb⟩ : ∃ b, decide (0 < q) = b := ⟨_, rfl⟩
  have m5 : decide ((0 : Int) < (q : Int)) = b := by rw [← hb]; simp
  rw [hd, hb]
  clear hs hd
  obtain ⟨w1, hw1, ha1⟩ := lead_start w (askO a n c l q (t : Nat) key cnt arg want op)
  have HW1 := Lib.hid hw1
  have HA1 := Lib.hid ha1
  clear hw1 ha1
  go_enter Try.func16, Try.ntmps16
  go_upto_region 1 with fail
  rw [HW1.out]
  refine wp_region_held (S := AkS w (askO a n c l q (t : Nat) key cnt arg want op)) (by kernel_rfl) ?_
  change wpAnyH _ _ _ _ _ _ _ _ (World.drew _)
  have hHeld : (AkS w (askO a n c l q (t : Nat) key cnt arg want op)) (World.drew w1) := HA1.out.drew
  refine takeH 0 (some 4) (v := ?_) rfl rfl (by kernel_rfl) (by kernel_rfl) (by kernel_rfl) (fun _ _ _ h => h) (Or.inl ⟨by kernel_rfl, ?_⟩) hHeld ?_
  rotate_left
  · intro w' hSw
    obtain ⟨s0, s1, s2, s3, s4, s5, s6, s7, s8⟩ := hSw.cells
    go_simp
    try with_reducible rfl
  (try simp only [Act.put, List.setIfInBounds_toArray, List.set_cons_zero, List.set_cons_succ])
  refine takeH 1 (some 5) (v := ?_) rfl rfl (by kernel_rfl) (by kernel_rfl) (by kernel_rfl) (fun _ _ _ h => h) (Or.inl ⟨by kernel_rfl, ?_⟩) hHeld ?_
  rotate_left
  · intro w' hSw
    obtain ⟨s0, s1, s2, s3, s4, s5, s6, s7, s8⟩ := hSw.cells
    go_simp
    try with_reducible rfl
  (try simp only [Act.put, List.setIfInBounds_toArray, List.set_cons_zero, List.set_cons_succ])
  refine takeH 2 (some 6) (v := ?_) rfl rfl (by kernel_rfl) (by kernel_rfl) (by kernel_rfl) (fun _ _ _ h => h) (Or.inl ⟨by kernel_rfl, ?_⟩) hHeld ?_
  rotate_left
  · intro w' hSw
    obtain ⟨s0, s1, s2, s3, s4, s5, s6, s7, s8⟩ := hSw.cells
    go_simp
    try with_reducible rfl
  (try simp only [Act.put, List.setIfInBounds_toArray, List.set_cons_zero, List.set_cons_succ])
  refine takeH 3 (some 7) (v := ?_) rfl rfl (by kernel_rfl) (by kernel_rfl) (by kernel_rfl) (fun _ _ _ h => h) (Or.inl ⟨by kernel_rfl, ?_⟩) hHeld ?_
  rotate_left
  · intro w' hSw
    obtain ⟨s0, s1, s2, s3, s4, s5, s6, s7, s8⟩ := hSw.cells
    go_simp
    try with_reducible rfl
  (try simp only [Act.put, List.setIfInBounds_toArray, List.set_cons_zero, List.set_cons_succ])
  refine takeH 4 (some 8) (v := ?_) rfl rfl (by kernel_rfl) (by kernel_rfl) (by kernel_rfl) (fun _ _ _ h => h) (Or.inl ⟨by kernel_rfl, ?_⟩) hHeld ?_
  rotate_left
  · intro w' hSw
    obtain ⟨s0, s1, s2, s3, s4, s5, s6, s7, s8⟩ := hSw.cells
    go_simp
    try with_reducible rfl
  (try simp only [Act.put, List.setIfInBounds_toArray, List.set_cons_zero, List.set_cons_succ])
  refine takeH 5 (some 9) (v := ?_) rfl rfl (by kernel_rfl) (by kernel_rfl) (by kernel_rfl) (fun _ _ _ h => h) (Or.inl ⟨by kernel_rfl, ?_⟩) hHeld ?_
  rotate_left
  · intro w' hSw
    obtain ⟨s0, s1, s2, s3, s4, s5, s6, s7, s8⟩ := hSw.cells
    go_simp
    try with_reducible rfl
  (try simp only [Act.put, List.setIfInBounds_toArray, List.set_cons_zero, List.set_cons_succ])
  refine takeH 6 (some 10) (v := ?_) rfl rfl (by kernel_rfl) (by kernel_rfl) (by kernel_rfl) (fun _ _ _ h => h) (Or.inl ⟨by kernel_rfl, ?_⟩) hHeld ?_
  rotate_left
  · intro w' hSw
    obtain ⟨s0, s1, s2, s3, s4, s5, s6, s7, s8⟩ := hSw.cells
    go_simp
    try with_reducible rfl
  (try simp only [Act.put, List.setIfInBounds_toArray, List.set_cons_zero, List.set_cons_succ])
  refine takeH 7 (some 11) (v := ?_) rfl rfl (by kernel_rfl) (by kernel_rfl) (by kernel_rfl) (fun _ _ _ h => h) (Or.inl ⟨by kernel_rfl, ?_⟩) hHeld ?_
  rotate_left
  · intro w' hSw
    obtain ⟨s0, s1, s2, s3, s4, s5, s6, s7, s8⟩ := hSw.cells
    go_simp
    try with_reducible rfl
  (try simp only [Act.put, List.setIfInBounds_toArray, List.set_cons_zero, List.set_cons_succ])
  refine takeH 8 (some 12) (v := ?_) rfl rfl (by kernel_rfl) (by kernel_rfl) (by kernel_rfl) (fun _ _ _ h => h) (Or.inl ⟨by kernel_rfl, ?_⟩) hHeld ?_
  rotate_left
  · intro w' hSw
    obtain ⟨s0, s1, s2, s3, s4, s5, s6, s7, s8⟩ := hSw.cells
    go_simp
    try with_reducible rfl
  (try simp only [Act.put, List.setIfInBounds_toArray, List.set_cons_zero, List.set_cons_succ])
  refine takeH 9 (some 13) (v := ?_) rfl rfl (by kernel_rfl) (by kernel_rfl) (by kernel_rfl) (fun _ _ _ h => h) (Or.inl ⟨by kernel_rfl, ?_⟩) hHeld ?_
  rotate_left
  · intro w' hSw
    obtain ⟨s0, s1, s2, s3, s4, s5, s6, s7, s8⟩ := hSw.cells
    go_simp
    try with_reducible rfl
  (try simp only [Act.put, List.setIfInBounds_toArray, List.set_cons_zero, List.set_cons_succ])
  refine takeH 10 (some 14) (v := ?_) rfl rfl (by kernel_rfl) (by kernel_rfl) (by kernel_rfl) (fun _ _ _ h => h) (Or.inl ⟨by kernel_rfl, ?_⟩) hHeld ?_
  rotate_left
  · intro w' hSw
    obtain ⟨s0, s1, s2, s3, s4, s5, s6, s7, s8⟩ := hSw.cells
    go_simp
    try with_reducible rfl
  (try simp only [Act.put, List.setIfInBounds_toArray, List.set_cons_zero, List.set_cons_succ])
  refine takeH 12 (some 16) (v := ?_) rfl rfl (by kernel_rfl) (by kernel_rfl) (by kernel_rfl) (fun _ _ _ h => h) (Or.inl ⟨by kernel_rfl, ?_⟩) hHeld ?_
  rotate_left
  · intro w' hSw
    obtain ⟨s0, s1, s2, s3, s4, s5, s6, s7, s8⟩ := hSw.cells
    go_simp
    try with_reducible rfl
  (try simp only [Act.put, List.setIfInBounds_toArray, List.set_cons_zero, List.set_cons_succ])
  refine takeH 13 (some 17) (v := ?_) rfl rfl (by kernel_rfl) (by kernel_rfl) (by kernel_rfl) (fun _ _ _ h => h) (Or.inl ⟨by kernel_rfl, ?_⟩) hHeld ?_
  rotate_left
  · intro w' hSw
    obtain ⟨s0, s1, s2, s3, s4, s5, s6, s7, s8⟩ := hSw.cells
    go_simp
    try with_reducible rfl
  (try simp only [Act.put, List.setIfInBounds_toArray, List.set_cons_zero, List.set_cons_succ])
  refine takeH 14 (some 18) (v := ?_) rfl rfl (by kernel_rfl) (by kernel_rfl) (by kernel_rfl) (fun _ _ _ h => h) (Or.inl ⟨by kernel_rfl, ?_⟩) hHeld ?_
  rotate_left
  · intro w' hSw
    obtain ⟨s0, s1, s2, s3, s4, s5, s6, s7, s8⟩ := hSw.cells
    go_simp
    try with_reducible rfl
  (try simp only [Act.put, List.setIfInBounds_toArray, List.set_cons_zero, List.set_cons_succ])
  refine takeH 15 (some 19) (v := ?_) rfl rfl (by kernel_rfl) (by kernel_rfl) (by kernel_rfl) (fun _ _ _ h => h) (Or.inl ⟨by kernel_rfl, ?_⟩) hHeld ?_
  rotate_left
  · intro w' hSw
    obtain ⟨s0, s1, s2, s3, s4, s5, s6, s7, s8⟩ := hSw.cells
    go_simp
    try with_reducible rfl
  (try simp only [Act.put, List.setIfInBounds_toArray, List.set_cons_zero, List.set_cons_succ])
  refine callH 11 (some 15) (f := 41) (args := ?_) rfl rfl (by kernel_rfl) (by kernel_rfl) ?_ ?_
  rotate_left
  · go_simp
    try with_reducible rfl
  refine (inline_any _ _ _ _ _ _ _ _ _ _ _ _ _).mono ?_
  rintro e w2 ⟨rfl, hb2⟩
  have hHeld1 := hHeld.below hb2
  refine ⟨_, rfl, hHeld1, ?_⟩
  (try simp only [Act.put, List.setIfInBounds_toArray, List.set_cons_zero, List.set_cons_succ])
  obtain ⟨pv0, pv1, pc0, pc1, pz0, pz1⟩ := hHeld1.pos
  have hHeld2 : (AkS w (askO a n c l q (t : Nat) key cnt arg want op)) ((w2.setCell ⟨w.heap.size + 1, 0, none⟩ (.int .i64 ((l : Nat)))).setCell ⟨w.heap.size + 1, 1, none⟩ (.int .i64 ((d : Nat)))) := hHeld1.store _ _
  refine storeH 16 (w' := (w2.setCell ⟨w.heap.size + 1, 0, none⟩ (.int .i64 ((l : Nat)))).setCell ⟨w.heap.size + 1, 1, none⟩ (.int .i64 ((d : Nat)))) rfl rfl (by kernel_rfl) (by kernel_rfl) ?_ hHeld2 ?_
  · go_simp
    try rfl
  (try simp only [Act.put, List.setIfInBounds_toArray, List.set_cons_zero, List.set_cons_succ])
  refine takeH 17 (some 3) (v := ?_) rfl rfl (by kernel_rfl) (by kernel_rfl) (by kernel_rfl) (fun _ _ _ h => h) (Or.inl ⟨by kernel_rfl, ?_⟩) hHeld2 ?_
  rotate_left
  · intro w' hSw
    obtain ⟨s0, s1, s2, s3, s4, s5, s6, s7, s8⟩ := hSw.cells
    go_simp
    try with_reducible rfl
  (try simp only [Act.put, List.setIfInBounds_toArray, List.set_cons_zero, List.set_cons_succ])
  refine wpAnyH_done (by kernel_rfl) ?_ _
  go_wp2_with fail
  refine bodyPost_ret (v := .tuple #[.agg #[.int .i64 ((l : Nat)), .int .i64 ((d : Nat))], .bool (b)]) ?_ rfl ⟨rfl, ?_⟩
  · rw [results_ct rfl]
    go_simp
  · exact hHeld2.1
end Go.Proofs.Ytikdojebnbmpoaa.U
