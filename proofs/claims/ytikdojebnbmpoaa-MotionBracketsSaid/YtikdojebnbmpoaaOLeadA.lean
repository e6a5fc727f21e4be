/-
  Where the lines' motions lead: j, k, +, -, _, |. (MADE by wip/tools/gen_leadab.py.)
-/
import Derived.Test.YtikdojebnbmpoaaOLead
namespace Go.Proofs.Ytikdojebnbmpoaa.U
open Go.RowKit
set_option linter.unusedVariables false
set_option linter.unusedSimpArgs false
set_option maxRecDepth 100000

/-- so many lines down, up, and whether there are such -/
def dnL (n l v : Nat) : Nat × Bool := if l + v < n then (l + v, true) else (0, false)
def upL (l v : Nat) : Nat × Bool := if v ≤ l then (l - v, true) else (0, false)
theorem dnL_lt {n l : Nat} (v : Nat) (h : l < n) : (dnL n l v).1 < n := by
  unfold dnL; split
  · assumption
  · show 0 < n; omega
theorem upL_lt {n l : Nat} (v : Nat) (h : l < n) : (upL l v).1 < n := by
  unfold upL; split
  · show l - v < n; omega
  · show 0 < n; omega
theorem down_any (a : Option Addr) (n c l q : Nat) (t : Nat) (key cnt arg want : Int) (op : Bool) (v : Nat) (w : World) (hn : n ≤ 9223372036854775807) (hl : l < n) :
    Calls Try.prog 44 #[askL a n c l q (t : Nat) key cnt arg want op, .int .i64 (v : Nat)] w fun e w' => e = .returned (.tuple #[.int .i64 ((dnL n l v).1 : Nat), .bool (dnL n l v).2]) ∧ Below w.heap.size w w' := by
  unfold dnL
  by_cases h : l + v < n
  · rw [if_pos h]; exact down_yes a n c l q t key cnt arg want op v w hn h
  · rw [if_neg h]; exact down_no a n c l q t key cnt arg want op v w hn hl h
theorem up_any (a : Option Addr) (n c l q : Nat) (t : Nat) (key cnt arg want : Int) (op : Bool) (v : Nat) (w : World) (hn : n ≤ 9223372036854775807) (hl : l < n) :
    Calls Try.prog 45 #[askL a n c l q (t : Nat) key cnt arg want op, .int .i64 (v : Nat)] w fun e w' => e = .returned (.tuple #[.int .i64 ((upL l v).1 : Nat), .bool (upL l v).2]) ∧ Below w.heap.size w w' := by
  unfold upL
  by_cases h : v ≤ l
  · rw [if_pos h]; exact up_yes a n c l q t key cnt arg want op v w (by omega) h
  · rw [if_neg h]; exact up_no a n c l q t key cnt arg want op v w (by omega) h
set_option maxHeartbeats 1000000 in
theorem lineDown_any (F : Nat → Prop) (a : Option Addr) (n c l q : Nat) (t : Nat) (key cnt arg want : Int) (op : Bool) (L : List (List Int)) (w : World) (h : RdL F w a n c L) (hp : okP L (l, q)) (ht : (t : Int) ≤ 9223372036854775807) (ht1 : 1 ≤ t) (hw : i64b want) :
    Calls Try.prog 18 #[askL a n c l q (t : Nat) key cnt arg want op] w fun e w' => e = .returned (.tuple #[plV (clipP L ((dnL n l t).1 : Nat) (wantC want q)), .bool (dnL n l t).2]) ∧ Below w.heap.size w w' := by
  have hln : L.length = n := h.len
  have hl : l < n := by rw [← hln]; exact hp.1
  have hsm := h.small
  have hq : (q : Int) ≤ 9223372036854775807 := by
    have h2 := hp.2
    simp only at h2
    obtain ⟨b, off, ra, rc, -, -, -, -, -, hrd, -⟩ := h.get (Below.refl _ w) (List.getElem?_eq_getElem (l := L) (i := l) (by omega))
    have := hrd.small
    unfold lnL at h2
    rw [List.getD_eq_getElem?_getD, List.getElem?_eq_getElem (by omega)] at h2
    simp only [Option.getD_some] at h2
    omega
  have hlt : (dnL n l t).1 < n := dnL_lt t hl
  have HD : Hid (∀ W, Calls Try.prog 44 #[askL a n c l q (t : Nat) key cnt arg want op, .int .i64 (t : Nat)] W fun e w' => e = .returned (.tuple #[.int .i64 ((dnL n l t).1 : Nat), .bool (dnL n l t).2]) ∧ Below W.heap.size W w') := fun W => down_any a n c l q t key cnt arg want op t W hsm hl
  obtain ⟨⟨tl, tb⟩, htl⟩ : ∃ y, (dnL n l t) = y := ⟨_, rfl⟩
  rw [htl] at HD hlt ⊢
  simp only at HD hlt ⊢
  obtain ⟨⟨p1, p2⟩, hpp⟩ : ∃ p, clipP L (tl : Nat) (wantC want q) = p := ⟨_, rfl⟩
  have HE : Hid (∀ W, Below w.heap.size w W → Calls Try.prog 43 #[askL a n c l q (t : Nat) key cnt arg want op, .int .i64 (tl : Nat), .bool tb] W fun e w' => e = .returned (.tuple #[.agg #[.int .i64 (p1 : Nat), .int .i64 (p2 : Nat)], .bool tb]) ∧ Below W.heap.size W w') := by
    intro W hW
    have := wanted_any F a n c l q t key cnt arg want op L (tl : Nat) tb W (h.below hW) ⟨by omega, by omega⟩ hq hw
    rw [hpp] at this
    exact this
  rw [hpp]
  clear h hp hw hpp htl hln
  obtain ⟨w1, hw1, ha1⟩ := lead_start w (askO a n c l q (t : Nat) key cnt arg want op)
  have HW1 := Lib.hid hw1
  have HA1 := Lib.hid ha1
  clear hw1 ha1
  go_enter Try.func18, Try.ntmps18
  go_upto_region 1 with fail
  rw [HW1.out]
  refine wp_region_held (S := AkS w (askO a n c l q (t : Nat) key cnt arg want op)) (by kernel_rfl) ?_
  change wpAnyH _ _ _ _ _ _ _ _ (World.drew _)
  have hHeld : (AkS w (askO a n c l q (t : Nat) key cnt arg want op)) (World.drew w1) := HA1.out.drew
  refine takeH 0 (some 4) (v := ?_) rfl rfl (by kernel_rfl) (by kernel_rfl) (by kernel_rfl) (fun _ _ _ h => h) (Or.inl ⟨by kernel_rfl, ?_⟩) hHeld ?_
  rotate_left
  · intro w' hSw
    obtain ⟨s0, s1, s2, s3, s4, s5, s6, s7, s8⟩ := hSw.cells
    go_simp
    try with_reducible rfl
  (try simp only [Act.put, List.setIfInBounds_toArray, List.set_cons_zero, List.set_cons_succ])
  refine takeH 1 (some 5) (v := ?_) rfl rfl (by kernel_rfl) (by kernel_rfl) (by kernel_rfl) (fun _ _ _ h => h) (Or.inl ⟨by kernel_rfl, ?_⟩) hHeld ?_
  rotate_left
  · intro w' hSw
    obtain ⟨s0, s1, s2, s3, s4, s5, s6, s7, s8⟩ := hSw.cells
    go_simp
    try with_reducible rfl
  (try simp only [Act.put, List.setIfInBounds_toArray, List.set_cons_zero, List.set_cons_succ])
  refine takeH 2 (some 6) (v := ?_) rfl rfl (by kernel_rfl) (by kernel_rfl) (by kernel_rfl) (fun _ _ _ h => h) (Or.inl ⟨by kernel_rfl, ?_⟩) hHeld ?_
  rotate_left
  · intro w' hSw
    obtain ⟨s0, s1, s2, s3, s4, s5, s6, s7, s8⟩ := hSw.cells
    go_simp
    try with_reducible rfl
  (try simp only [Act.put, List.setIfInBounds_toArray, List.set_cons_zero, List.set_cons_succ])
  refine takeH 3 (some 7) (v := ?_) rfl rfl (by kernel_rfl) (by kernel_rfl) (by kernel_rfl) (fun _ _ _ h => h) (Or.inl ⟨by kernel_rfl, ?_⟩) hHeld ?_
  rotate_left
  · intro w' hSw
    obtain ⟨s0, s1, s2, s3, s4, s5, s6, s7, s8⟩ := hSw.cells
    go_simp
    try with_reducible rfl
  (try simp only [Act.put, List.setIfInBounds_toArray, List.set_cons_zero, List.set_cons_succ])
  refine callH 4 (some 8) (f := 44) (args := ?_) rfl rfl (by kernel_rfl) (by kernel_rfl) ?_ ?_
  rotate_left
  · go_simp
    try with_reducible rfl
  refine (HD.out _).mono ?_
  rintro e w2 ⟨rfl, hb2⟩
  have hHeld1 := hHeld.below hb2
  refine ⟨_, rfl, hHeld1, ?_⟩
  (try simp only [Act.put, List.setIfInBounds_toArray, List.set_cons_zero, List.set_cons_succ])
  refine takeH 5 (some 9) (v := ?_) rfl rfl (by kernel_rfl) (by kernel_rfl) (by kernel_rfl) (fun _ _ _ h => h) (Or.inl ⟨by kernel_rfl, ?_⟩) hHeld1 ?_
  rotate_left
  · intro w' hSw
    obtain ⟨s0, s1, s2, s3, s4, s5, s6, s7, s8⟩ := hSw.cells
    go_simp
    try with_reducible rfl
  (try simp only [Act.put, List.setIfInBounds_toArray, List.set_cons_zero, List.set_cons_succ])
  refine takeH 6 (some 10) (v := ?_) rfl rfl (by kernel_rfl) (by kernel_rfl) (by kernel_rfl) (fun _ _ _ h => h) (Or.inl ⟨by kernel_rfl, ?_⟩) hHeld1 ?_
  rotate_left
  · intro w' hSw
    obtain ⟨s0, s1, s2, s3, s4, s5, s6, s7, s8⟩ := hSw.cells
    go_simp
    try with_reducible rfl
  (try simp only [Act.put, List.setIfInBounds_toArray, List.set_cons_zero, List.set_cons_succ])
  refine callH 7 (some 11) (f := 43) (args := ?_) rfl rfl (by kernel_rfl) (by kernel_rfl) ?_ ?_
  rotate_left
  · go_simp
    try with_reducible rfl
  refine (HE.out _ hHeld1.1).mono ?_
  rintro e w3 ⟨rfl, hb3⟩
  have hHeld2 := hHeld1.below hb3
  refine ⟨_, rfl, hHeld2, ?_⟩
  (try simp only [Act.put, List.setIfInBounds_toArray, List.set_cons_zero, List.set_cons_succ])
  refine takeH 8 (some 12) (v := ?_) rfl rfl (by kernel_rfl) (by kernel_rfl) (by kernel_rfl) (fun _ _ _ h => h) (Or.inl ⟨by kernel_rfl, ?_⟩) hHeld2 ?_
  rotate_left
  · intro w' hSw
    obtain ⟨s0, s1, s2, s3, s4, s5, s6, s7, s8⟩ := hSw.cells
    go_simp
    try with_reducible rfl
  (try simp only [Act.put, List.setIfInBounds_toArray, List.set_cons_zero, List.set_cons_succ])
  refine takeH 9 (some 13) (v := ?_) rfl rfl (by kernel_rfl) (by kernel_rfl) (by kernel_rfl) (fun _ _ _ h => h) (Or.inl ⟨by kernel_rfl, ?_⟩) hHeld2 ?_
  rotate_left
  · intro w' hSw
    obtain ⟨s0, s1, s2, s3, s4, s5, s6, s7, s8⟩ := hSw.cells
    go_simp
    try with_reducible rfl
  (try simp only [Act.put, List.setIfInBounds_toArray, List.set_cons_zero, List.set_cons_succ])
  obtain ⟨pv0, pv1, pc0, pc1, pz0, pz1⟩ := hHeld2.pos
  have hHeld3 : (AkS w (askO a n c l q (t : Nat) key cnt arg want op)) ((w3.setCell ⟨w.heap.size + 1, 0, none⟩ (.int .i64 ((p1 : Nat)))).setCell ⟨w.heap.size + 1, 1, none⟩ (.int .i64 ((p2 : Nat)))) := hHeld2.store _ _
  refine storeH 10 (w' := (w3.setCell ⟨w.heap.size + 1, 0, none⟩ (.int .i64 ((p1 : Nat)))).setCell ⟨w.heap.size + 1, 1, none⟩ (.int .i64 ((p2 : Nat)))) rfl rfl (by kernel_rfl) (by kernel_rfl) ?_ hHeld3 ?_
  · go_simp
    try rfl
  (try simp only [Act.put, List.setIfInBounds_toArray, List.set_cons_zero, List.set_cons_succ])
  refine takeH 11 (some 3) (v := ?_) rfl rfl (by kernel_rfl) (by kernel_rfl) (by kernel_rfl) (fun _ _ _ h => h) (Or.inl ⟨by kernel_rfl, ?_⟩) hHeld3 ?_
  rotate_left
  · intro w' hSw
    obtain ⟨s0, s1, s2, s3, s4, s5, s6, s7, s8⟩ := hSw.cells
    go_simp
    try with_reducible rfl
  (try simp only [Act.put, List.setIfInBounds_toArray, List.set_cons_zero, List.set_cons_succ])
  refine wpAnyH_done (by kernel_rfl) ?_ _
  go_wp2_with fail
  refine bodyPost_ret (v := .tuple #[.agg #[.int .i64 ((p1 : Nat)), .int .i64 ((p2 : Nat))], .bool (tb)]) ?_ rfl ⟨rfl, ?_⟩
  · rw [results_ct rfl]
    go_simp
  · exact hHeld3.1
set_option maxHeartbeats 1000000 in
theorem lineUp_any (F : Nat → Prop) (a : Option Addr) (n c l q : Nat) (t : Nat) (key cnt arg want : Int) (op : Bool) (L : List (List Int)) (w : World) (h : RdL F w a n c L) (hp : okP L (l, q)) (ht : (t : Int) ≤ 9223372036854775807) (ht1 : 1 ≤ t) (hw : i64b want) :
    Calls Try.prog 19 #[askL a n c l q (t : Nat) key cnt arg want op] w fun e w' => e = .returned (.tuple #[plV (clipP L ((upL l t).1 : Nat) (wantC want q)), .bool (upL l t).2]) ∧ Below w.heap.size w w' := by
  have hln : L.length = n := h.len
  have hl : l < n := by rw [← hln]; exact hp.1
  have hsm := h.small
  have hq : (q : Int) ≤ 9223372036854775807 := by
    have h2 := hp.2
    simp only at h2
    obtain ⟨b, off, ra, rc, -, -, -, -, -, hrd, -⟩ := h.get (Below.refl _ w) (List.getElem?_eq_getElem (l := L) (i := l) (by omega))
    have := hrd.small
    unfold lnL at h2
    rw [List.getD_eq_getElem?_getD, List.getElem?_eq_getElem (by omega)] at h2
    simp only [Option.getD_some] at h2
    omega
  have hlt : (upL l t).1 < n := upL_lt t hl
  have HD : Hid (∀ W, Calls Try.prog 45 #[askL a n c l q (t : Nat) key cnt arg want op, .int .i64 (t : Nat)] W fun e w' => e = .returned (.tuple #[.int .i64 ((upL l t).1 : Nat), .bool (upL l t).2]) ∧ Below W.heap.size W w') := fun W => up_any a n c l q t key cnt arg want op t W hsm hl
  obtain ⟨⟨tl, tb⟩, htl⟩ : ∃ y, (upL l t) = y := ⟨_, rfl⟩
  rw [htl] at HD hlt ⊢
  simp only at HD hlt ⊢
  obtain ⟨⟨p1, p2⟩, hpp⟩ : ∃ p, clipP L (tl : Nat) (wantC want q) = p := ⟨_, rfl⟩
  have HE : Hid (∀ W, Below w.heap.size w W → Calls Try.prog 43 #[askL a n c l q (t : Nat) key cnt arg want op, .int .i64 (tl : Nat), .bool tb] W fun e w' => e = .returned (.tuple #[.agg #[.int .i64 (p1 : Nat), .int .i64 (p2 : Nat)], .bool tb]) ∧ Below W.heap.size W w') := by
    intro W hW
    have := wanted_any F a n c l q t key cnt arg want op L (tl : Nat) tb W (h.below hW) ⟨by omega, by omega⟩ hq hw
    rw [hpp] at this
    exact this
  rw [hpp]
  clear h hp hw hpp htl hln
  obtain ⟨w1, hw1, ha1⟩ := lead_start w (askO a n c l q (t : Nat) key cnt arg want op)
  have HW1 := Lib.hid hw1
  have HA1 := Lib.hid ha1
  clear hw1 ha1
  go_enter Try.func19, Try.ntmps19
  go_upto_region 1 with fail
  rw [HW1.out]
  refine wp_region_held (S := AkS w (askO a n c l q (t : Nat) key cnt arg want op)) (by kernel_rfl) ?_
  change wpAnyH _ _ _ _ _ _ _ _ (World.drew _)
  have hHeld : (AkS w (askO a n c l q (t : Nat) key cnt arg want op)) (World.drew w1) := HA1.out.drew
  refine takeH 0 (some 4) (v := ?_) rfl rfl (by kernel_rfl) (by kernel_rfl) (by kernel_rfl) (fun _ _ _ h => h) (Or.inl ⟨by kernel_rfl, ?_⟩) hHeld ?_
  rotate_left
  · intro w' hSw
    obtain ⟨s0, s1, s2, s3, s4, s5, s6, s7, s8⟩ := hSw.cells
    go_simp
    try with_reducible rfl
  (try simp only [Act.put, List.setIfInBounds_toArray, List.set_cons_zero, List.set_cons_succ])
  refine takeH 1 (some 5) (v := ?_) rfl rfl (by kernel_rfl) (by kernel_rfl) (by kernel_rfl) (fun _ _ _ h => h) (Or.inl ⟨by kernel_rfl, ?_⟩) hHeld ?_
  rotate_left
  · intro w' hSw
    obtain ⟨s0, s1, s2, s3, s4, s5, s6, s7, s8⟩ := hSw.cells
    go_simp
    try with_reducible rfl
  (try simp only [Act.put, List.setIfInBounds_toArray, List.set_cons_zero, List.set_cons_succ])
  refine takeH 2 (some 6) (v := ?_) rfl rfl (by kernel_rfl) (by kernel_rfl) (by kernel_rfl) (fun _ _ _ h => h) (Or.inl ⟨by kernel_rfl, ?_⟩) hHeld ?_
  rotate_left
  · intro w' hSw
    obtain ⟨s0, s1, s2, s3, s4, s5, s6, s7, s8⟩ := hSw.cells
    go_simp
    try with_reducible rfl
  (try simp only [Act.put, List.setIfInBounds_toArray, List.set_cons_zero, List.set_cons_succ])
  refine takeH 3 (some 7) (v := ?_) rfl rfl (by kernel_rfl) (by kernel_rfl) (by kernel_rfl) (fun _ _ _ h => h) (Or.inl ⟨by kernel_rfl, ?_⟩) hHeld ?_
  rotate_left
  · intro w' hSw
    obtain ⟨s0, s1, s2, s3, s4, s5, s6, s7, s8⟩ := hSw.cells
    go_simp
    try with_reducible rfl
  (try simp only [Act.put, List.setIfInBounds_toArray, List.set_cons_zero, List.set_cons_succ])
  refine callH 4 (some 8) (f := 45) (args := ?_) rfl rfl (by kernel_rfl) (by kernel_rfl) ?_ ?_
  rotate_left
  · go_simp
    try with_reducible rfl
  refine (HD.out _).mono ?_
  rintro e w2 ⟨rfl, hb2⟩
  have hHeld1 := hHeld.below hb2
  refine ⟨_, rfl, hHeld1, ?_⟩
  (try simp only [Act.put, List.setIfInBounds_toArray, List.set_cons_zero, List.set_cons_succ])
  refine takeH 5 (some 9) (v := ?_) rfl rfl (by kernel_rfl) (by kernel_rfl) (by kernel_rfl) (fun _ _ _ h => h) (Or.inl ⟨by kernel_rfl, ?_⟩) hHeld1 ?_
  rotate_left
  · intro w' hSw
    obtain ⟨s0, s1, s2, s3, s4, s5, s6, s7, s8⟩ := hSw.cells
    go_simp
    try with_reducible rfl
  (try simp only [Act.put, List.setIfInBounds_toArray, List.set_cons_zero, List.set_cons_succ])
  refine takeH 6 (some 10) (v := ?_) rfl rfl (by kernel_rfl) (by kernel_rfl) (by kernel_rfl) (fun _ _ _ h => h) (Or.inl ⟨by kernel_rfl, ?_⟩) hHeld1 ?_
  rotate_left
  · intro w' hSw
    obtain ⟨s0, s1, s2, s3, s4, s5, s6, s7, s8⟩ := hSw.cells
    go_simp
    try with_reducible rfl
  (try simp only [Act.put, List.setIfInBounds_toArray, List.set_cons_zero, List.set_cons_succ])
  refine callH 7 (some 11) (f := 43) (args := ?_) rfl rfl (by kernel_rfl) (by kernel_rfl) ?_ ?_
  rotate_left
  · go_simp
    try with_reducible rfl
  refine (HE.out _ hHeld1.1).mono ?_
  rintro e w3 ⟨rfl, hb3⟩
  have hHeld2 := hHeld1.below hb3
  refine ⟨_, rfl, hHeld2, ?_⟩
  (try simp only [Act.put, List.setIfInBounds_toArray, List.set_cons_zero, List.set_cons_succ])
  refine takeH 8 (some 12) (v := ?_) rfl rfl (by kernel_rfl) (by kernel_rfl) (by kernel_rfl) (fun _ _ _ h => h) (Or.inl ⟨by kernel_rfl, ?_⟩) hHeld2 ?_
  rotate_left
  · intro w' hSw
    obtain ⟨s0, s1, s2, s3, s4, s5, s6, s7, s8⟩ := hSw.cells
    go_simp
    try with_reducible rfl
  (try simp only [Act.put, List.setIfInBounds_toArray, List.set_cons_zero, List.set_cons_succ])
  refine takeH 9 (some 13) (v := ?_) rfl rfl (by kernel_rfl) (by kernel_rfl) (by kernel_rfl) (fun _ _ _ h => h) (Or.inl ⟨by kernel_rfl, ?_⟩) hHeld2 ?_
  rotate_left
  · intro w' hSw
    obtain ⟨s0, s1, s2, s3, s4, s5, s6, s7, s8⟩ := hSw.cells
    go_simp
    try with_reducible rfl
  (try simp only [Act.put, List.setIfInBounds_toArray, List.set_cons_zero, List.set_cons_succ])
  obtain ⟨pv0, pv1, pc0, pc1, pz0, pz1⟩ := hHeld2.pos
  have hHeld3 : (AkS w (askO a n c l q (t : Nat) key cnt arg want op)) ((w3.setCell ⟨w.heap.size + 1, 0, none⟩ (.int .i64 ((p1 : Nat)))).setCell ⟨w.heap.size + 1, 1, none⟩ (.int .i64 ((p2 : Nat)))) := hHeld2.store _ _
  refine storeH 10 (w' := (w3.setCell ⟨w.heap.size + 1, 0, none⟩ (.int .i64 ((p1 : Nat)))).setCell ⟨w.heap.size + 1, 1, none⟩ (.int .i64 ((p2 : Nat)))) rfl rfl (by kernel_rfl) (by kernel_rfl) ?_ hHeld3 ?_
  · go_simp
    try rfl
  (try simp only [Act.put, List.setIfInBounds_toArray, List.set_cons_zero, List.set_cons_succ])
  refine takeH 11 (some 3) (v := ?_) rfl rfl (by kernel_rfl) (by kernel_rfl) (by kernel_rfl) (fun _ _ _ h => h) (Or.inl ⟨by kernel_rfl, ?_⟩) hHeld3 ?_
  rotate_left
  · intro w' hSw
    obtain ⟨s0, s1, s2, s3, s4, s5, s6, s7, s8⟩ := hSw.cells
    go_simp
    try with_reducible rfl
  (try simp only [Act.put, List.setIfInBounds_toArray, List.set_cons_zero, List.set_cons_succ])
  refine wpAnyH_done (by kernel_rfl) ?_ _
  go_wp2_with fail
  refine bodyPost_ret (v := .tuple #[.agg #[.int .i64 ((p1 : Nat)), .int .i64 ((p2 : Nat))], .bool (tb)]) ?_ rfl ⟨rfl, ?_⟩
  · rw [results_ct rfl]
    go_simp
  · exact hHeld3.1
set_option maxHeartbeats 1000000 in
theorem firstBelow_any (F : Nat → Prop) (a : Option Addr) (n c l q : Nat) (t : Nat) (key cnt arg want : Int) (op : Bool) (L : List (List Int)) (w : World) (h : RdL F w a n c L) (hp : okP L (l, q)) (ht : (t : Int) ≤ 9223372036854775807) (ht1 : 1 ≤ t) :
    Calls Try.prog 20 #[askL a n c l q (t : Nat) key cnt arg want op] w fun e w' => e = .returned (.tuple #[plV ((dnL n l t).1, firstR (lnL L (dnL n l t).1)), .bool (dnL n l t).2]) ∧ Below w.heap.size w w' := by
  have hln : L.length = n := h.len
  have hl : l < n := by rw [← hln]; exact hp.1
  have hsm := h.small
  have hq : (q : Int) ≤ 9223372036854775807 := by
    have h2 := hp.2
    simp only at h2
    obtain ⟨b, off, ra, rc, -, -, -, -, -, hrd, -⟩ := h.get (Below.refl _ w) (List.getElem?_eq_getElem (l := L) (i := l) (by omega))
    have := hrd.small
    unfold lnL at h2
    rw [List.getD_eq_getElem?_getD, List.getElem?_eq_getElem (by omega)] at h2
    simp only [Option.getD_some] at h2
    omega
  have hlt : (dnL n l t).1 < n := dnL_lt t hl
  have HD : Hid (∀ W, Calls Try.prog 44 #[askL a n c l q (t : Nat) key cnt arg want op, .int .i64 (t : Nat)] W fun e w' => e = .returned (.tuple #[.int .i64 ((dnL n l t).1 : Nat), .bool (dnL n l t).2]) ∧ Below W.heap.size W w') := fun W => down_any a n c l q t key cnt arg want op t W hsm hl
  obtain ⟨⟨tl, tb⟩, htl⟩ : ∃ y, (dnL n l t) = y := ⟨_, rfl⟩
  rw [htl] at HD hlt ⊢
  simp only at HD hlt ⊢
  have hx : L[tl]? = some (lnL L tl) := by unfold lnL; rw [List.getD_eq_getElem?_getD, List.getElem?_eq_getElem (by omega)]; rfl
  obtain ⟨p2, hpp⟩ : ∃ p, firstR (lnL L tl) = p := ⟨_, rfl⟩
  have HE : Hid (∀ W, Below w.heap.size w W → Calls Try.prog 46 #[askL a n c l q (t : Nat) key cnt arg want op, .int .i64 (tl : Nat), .bool tb] W fun e w' => e = .returned (.tuple #[.agg #[.int .i64 (tl : Nat), .int .i64 (p2 : Nat)], .bool tb]) ∧ Below W.heap.size W w') := by
    intro W hW
    have := first_any F a n c l q t key cnt arg want op L tl (lnL L tl) tb W (h.below hW) hx
    rw [hpp] at this
    exact this
  rw [hpp]
  clear h hp hpp htl hx hln
  obtain ⟨w1, hw1, ha1⟩ := lead_start w (askO a n c l q (t : Nat) key cnt arg want op)
  have HW1 := Lib.hid hw1
  have HA1 := Lib.hid ha1
  clear hw1 ha1
  go_enter Try.func20, Try.ntmps20
  go_upto_region 1 with fail
  rw [HW1.out]
  refine wp_region_held (S := AkS w (askO a n c l q (t : Nat) key cnt arg want op)) (by kernel_rfl) ?_
  change wpAnyH _ _ _ _ _ _ _ _ (World.drew _)
  have hHeld : (AkS w (askO a n c l q (t : Nat) key cnt arg want op)) (World.drew w1) := HA1.out.drew
  refine takeH 0 (some 4) (v := ?_) rfl rfl (by kernel_rfl) (by kernel_rfl) (by kernel_rfl) (fun _ _ _ h => h) (Or.inl ⟨by kernel_rfl, ?_⟩) hHeld ?_
  rotate_left
  · intro w' hSw
    obtain ⟨s0, s1, s2, s3, s4, s5, s6, s7, s8⟩ := hSw.cells
    go_simp
    try with_reducible rfl
  (try simp only [Act.put, List.setIfInBounds_toArray, List.set_cons_zero, List.set_cons_succ])
  refine takeH 1 (some 5) (v := ?_) rfl rfl (by kernel_rfl) (by kernel_rfl) (by kernel_rfl) (fun _ _ _ h => h) (Or.inl ⟨by kernel_rfl, ?_⟩) hHeld ?_
  rotate_left
  · intro w' hSw
    obtain ⟨s0, s1, s2, s3, s4, s5, s6, s7, s8⟩ := hSw.cells
    go_simp
    try with_reducible rfl
  (try simp only [Act.put, List.setIfInBounds_toArray, List.set_cons_zero, List.set_cons_succ])
  refine takeH 2 (some 6) (v := ?_) rfl rfl (by kernel_rfl) (by kernel_rfl) (by kernel_rfl) (fun _ _ _ h => h) (Or.inl ⟨by kernel_rfl, ?_⟩) hHeld ?_
  rotate_left
  · intro w' hSw
    obtain ⟨s0, s1, s2, s3, s4, s5, s6, s7, s8⟩ := hSw.cells
    go_simp
    try with_reducible rfl
  (try simp only [Act.put, List.setIfInBounds_toArray, List.set_cons_zero, List.set_cons_succ])
  refine takeH 3 (some 7) (v := ?_) rfl rfl (by kernel_rfl) (by kernel_rfl) (by kernel_rfl) (fun _ _ _ h => h) (Or.inl ⟨by kernel_rfl, ?_⟩) hHeld ?_
  rotate_left
  · intro w' hSw
    obtain ⟨s0, s1, s2, s3, s4, s5, s6, s7, s8⟩ := hSw.cells
    go_simp
    try with_reducible rfl
  (try simp only [Act.put, List.setIfInBounds_toArray, List.set_cons_zero, List.set_cons_succ])
  refine callH 4 (some 8) (f := 44) (args := ?_) rfl rfl (by kernel_rfl) (by kernel_rfl) ?_ ?_
  rotate_left
  · go_simp
    try with_reducible rfl
  refine (HD.out _).mono ?_
  rintro e w2 ⟨rfl, hb2⟩
  have hHeld1 := hHeld.below hb2
  refine ⟨_, rfl, hHeld1, ?_⟩
  (try simp only [Act.put, List.setIfInBounds_toArray, List.set_cons_zero, List.set_cons_succ])
  refine takeH 5 (some 9) (v := ?_) rfl rfl (by kernel_rfl) (by kernel_rfl) (by kernel_rfl) (fun _ _ _ h => h) (Or.inl ⟨by kernel_rfl, ?_⟩) hHeld1 ?_
  rotate_left
  · intro w' hSw
    obtain ⟨s0, s1, s2, s3, s4, s5, s6, s7, s8⟩ := hSw.cells
    go_simp
    try with_reducible rfl
  (try simp only [Act.put, List.setIfInBounds_toArray, List.set_cons_zero, List.set_cons_succ])
  refine takeH 6 (some 10) (v := ?_) rfl rfl (by kernel_rfl) (by kernel_rfl) (by kernel_rfl) (fun _ _ _ h => h) (Or.inl ⟨by kernel_rfl, ?_⟩) hHeld1 ?_
  rotate_left
  · intro w' hSw
    obtain ⟨s0, s1, s2, s3, s4, s5, s6, s7, s8⟩ := hSw.cells
    go_simp
    try with_reducible rfl
  (try simp only [Act.put, List.setIfInBounds_toArray, List.set_cons_zero, List.set_cons_succ])
  refine callH 7 (some 11) (f := 46) (args := ?_) rfl rfl (by kernel_rfl) (by kernel_rfl) ?_ ?_
  rotate_left
  · go_simp
    try with_reducible rfl
  refine (HE.out _ hHeld1.1).mono ?_
  rintro e w3 ⟨rfl, hb3⟩
  have hHeld2 := hHeld1.below hb3
  refine ⟨_, rfl, hHeld2, ?_⟩
  (try simp only [Act.put, List.setIfInBounds_toArray, List.set_cons_zero, List.set_cons_succ])
  refine takeH 8 (some 12) (v := ?_) rfl rfl (by kernel_rfl) (by kernel_rfl) (by kernel_rfl) (fun _ _ _ h => h) (Or.inl ⟨by kernel_rfl, ?_⟩) hHeld2 ?_
  rotate_left
  · intro w' hSw
    obtain ⟨s0, s1, s2, s3, s4, s5, s6, s7, s8⟩ := hSw.cells
    go_simp
    try with_reducible rfl
  (try simp only [Act.put, List.setIfInBounds_toArray, List.set_cons_zero, List.set_cons_succ])
  refine takeH 9 (some 13) (v := ?_) rfl rfl (by kernel_rfl) (by kernel_rfl) (by kernel_rfl) (fun _ _ _ h => h) (Or.inl ⟨by kernel_rfl, ?_⟩) hHeld2 ?_
  rotate_left
  · intro w' hSw
    obtain ⟨s0, s1, s2, s3, s4, s5, s6, s7, s8⟩ := hSw.cells
    go_simp
    try with_reducible rfl
  (try simp only [Act.put, List.setIfInBounds_toArray, List.set_cons_zero, List.set_cons_succ])
  obtain ⟨pv0, pv1, pc0, pc1, pz0, pz1⟩ := hHeld2.pos
  have hHeld3 : (AkS w (askO a n c l q (t : Nat) key cnt arg want op)) ((w3.setCell ⟨w.heap.size + 1, 0, none⟩ (.int .i64 ((tl : Nat)))).setCell ⟨w.heap.size + 1, 1, none⟩ (.int .i64 ((p2 : Nat)))) := hHeld2.store _ _
  refine storeH 10 (w' := (w3.setCell ⟨w.heap.size + 1, 0, none⟩ (.int .i64 ((tl : Nat)))).setCell ⟨w.heap.size + 1, 1, none⟩ (.int .i64 ((p2 : Nat)))) rfl rfl (by kernel_rfl) (by kernel_rfl) ?_ hHeld3 ?_
  · go_simp
    try rfl
  (try simp only [Act.put, List.setIfInBounds_toArray, List.set_cons_zero, List.set_cons_succ])
  refine takeH 11 (some 3) (v := ?_) rfl rfl (by kernel_rfl) (by kernel_rfl) (by kernel_rfl) (fun _ _ _ h => h) (Or.inl ⟨by kernel_rfl, ?_⟩) hHeld3 ?_
  rotate_left
  · intro w' hSw
    obtain ⟨s0, s1, s2, s3, s4, s5, s6, s7, s8⟩ := hSw.cells
    go_simp
    try with_reducible rfl
  (try simp only [Act.put, List.setIfInBounds_toArray, List.set_cons_zero, List.set_cons_succ])
  refine wpAnyH_done (by kernel_rfl) ?_ _
  go_wp2_with fail
  refine bodyPost_ret (v := .tuple #[.agg #[.int .i64 ((tl : Nat)), .int .i64 ((p2 : Nat))], .bool (tb)]) ?_ rfl ⟨rfl, ?_⟩
  · rw [results_ct rfl]
    go_simp
  · exact hHeld3.1
set_option maxHeartbeats 1000000 in
theorem firstAbove_any (F : Nat → Prop) (a : Option Addr) (n c l q : Nat) (t : Nat) (key cnt arg want : Int) (op : Bool) (L : List (List Int)) (w : World) (h : RdL F w a n c L) (hp : okP L (l, q)) (ht : (t : Int) ≤ 9223372036854775807) (ht1 : 1 ≤ t) :
    Calls Try.prog 21 #[askL a n c l q (t : Nat) key cnt arg want op] w fun e w' => e = .returned (.tuple #[plV ((upL l t).1, firstR (lnL L (upL l t).1)), .bool (upL l t).2]) ∧ Below w.heap.size w w' := by
  have hln : L.length = n := h.len
  have hl : l < n := by rw [← hln]; exact hp.1
  have hsm := h.small
  have hq : (q : Int) ≤ 9223372036854775807 := by
    have h2 := hp.2
    simp only at h2
    obtain ⟨b, off, ra, rc, -, -, -, -, -, hrd, -⟩ := h.get (Below.refl _ w) (List.getElem?_eq_getElem (l := L) (i := l) (by omega))
    have := hrd.small
    unfold lnL at h2
    rw [List.getD_eq_getElem?_getD, List.getElem?_eq_getElem (by omega)] at h2
    simp only [Option.getD_some] at h2
    omega
  have hlt : (upL l t).1 < n := upL_lt t hl
  have HD : Hid (∀ W, Calls Try.prog 45 #[askL a n c l q (t : Nat) key cnt arg want op, .int .i64 (t : Nat)] W fun e w' => e = .returned (.tuple #[.int .i64 ((upL l t).1 : Nat), .bool (upL l t).2]) ∧ Below W.heap.size W w') := fun W => up_any a n c l q t key cnt arg want op t W hsm hl
  obtain ⟨⟨tl, tb⟩, htl⟩ : ∃ y, (upL l t) = y := ⟨_, rfl⟩
  rw [htl] at HD hlt ⊢
  simp only at HD hlt ⊢
  have hx : L[tl]? = some (lnL L tl) := by unfold lnL; rw [List.getD_eq_getElem?_getD, List.getElem?_eq_getElem (by omega)]; rfl
  obtain ⟨p2, hpp⟩ : ∃ p, firstR (lnL L tl) = p := ⟨_, rfl⟩
  have HE : Hid (∀ W, Below w.heap.size w W → Calls Try.prog 46 #[askL a n c l q (t : Nat) key cnt arg want op, .int .i64 (tl : Nat), .bool tb] W fun e w' => e = .returned (.tuple #[.agg #[.int .i64 (tl : Nat), .int .i64 (p2 : Nat)], .bool tb]) ∧ Below W.heap.size W w') := by
    intro W hW
    have := first_any F a n c l q t key cnt arg want op L tl (lnL L tl) tb W (h.below hW) hx
    rw [hpp] at this
    exact this
  rw [hpp]
  clear h hp hpp htl hx hln
  obtain ⟨w1, hw1, ha1⟩ := lead_start w (askO a n c l q (t : Nat) key cnt arg want op)
  have HW1 := Lib.hid hw1
  have HA1 := Lib.hid ha1
  clear hw1 ha1
  go_enter Try.func21, Try.ntmps21
  go_upto_region 1 with fail
  rw [HW1.out]
  refine wp_region_held (S := AkS w (askO a n c l q (t : Nat) key cnt arg want op)) (by kernel_rfl) ?_
  change wpAnyH _ _ _ _ _ _ _ _ (World.drew _)
  have hHeld : (AkS w (askO a n c l q (t : Nat) key cnt arg want op)) (World.drew w1) := HA1.out.drew
  refine takeH 0 (some 4) (v := ?_) rfl rfl (by kernel_rfl) (by kernel_rfl) (by kernel_rfl) (fun _ _ _ h => h) (Or.inl ⟨by kernel_rfl, ?_⟩) hHeld ?_
  rotate_left
  · intro w' hSw
    obtain ⟨s0, s1, s2, s3, s4, s5, s6, s7, s8⟩ := hSw.cells
    go_simp
    try with_reducible rfl
  (try simp only [Act.put, List.setIfInBounds_toArray, List.set_cons_zero, List.set_cons_succ])
  refine takeH 1 (some 5) (v := ?_) rfl rfl (by kernel_rfl) (by kernel_rfl) (by kernel_rfl) (fun _ _ _ h => h) (Or.inl ⟨by kernel_rfl, ?_⟩) hHeld ?_
  rotate_left
  · intro w' hSw
    obtain ⟨s0, s1, s2, s3, s4, s5, s6, s7, s8⟩ := hSw.cells
    go_simp
    try with_reducible rfl
  (try simp only [Act.put, List.setIfInBounds_toArray, List.set_cons_zero, List.set_cons_succ])
  refine takeH 2 (some 6) (v := ?_) rfl rfl (by kernel_rfl) (by kernel_rfl) (by kernel_rfl) (fun _ _ _ h => h) (Or.inl ⟨by kernel_rfl, ?_⟩) hHeld ?_
  rotate_left
  · intro w' hSw
    obtain ⟨s0, s1, s2, s3, s4, s5, s6, s7, s8⟩ := hSw.cells
    go_simp
    try with_reducible rfl
  (try simp only [Act.put, List.setIfInBounds_toArray, List.set_cons_zero, List.set_cons_succ])
  refine takeH 3 (some 7) (v := ?_) rfl rfl (by kernel_rfl) (by kernel_rfl) (by kernel_rfl) (fun _ _ _ h => h) (Or.inl ⟨by kernel_rfl, ?_⟩) hHeld ?_
  rotate_left
  · intro w' hSw
    obtain ⟨s0, s1, s2, s3, s4, s5, s6, s7, s8⟩ := hSw.cells
    go_simp
    try with_reducible rfl
  (try simp only [Act.put, List.setIfInBounds_toArray, List.set_cons_zero, List.set_cons_succ])
  refine callH 4 (some 8) (f := 45) (args := ?_) rfl rfl (by kernel_rfl) (by kernel_rfl) ?_ ?_
  rotate_left
  · go_simp
    try with_reducible rfl
  refine (HD.out _).mono ?_
  rintro e w2 ⟨rfl, hb2⟩
  have hHeld1 := hHeld.below hb2
  refine ⟨_, rfl, hHeld1, ?_⟩
  (try simp only [Act.put, List.setIfInBounds_toArray, List.set_cons_zero, List.set_cons_succ])
  refine takeH 5 (some 9) (v := ?_) rfl rfl (by kernel_rfl) (by kernel_rfl) (by kernel_rfl) (fun _ _ _ h => h) (Or.inl ⟨by kernel_rfl, ?_⟩) hHeld1 ?_
  rotate_left
  · intro w' hSw
    obtain ⟨s0, s1, s2, s3, s4, s5, s6, s7, s8⟩ := hSw.cells
    go_simp
    try with_reducible rfl
  (try simp only [Act.put, List.setIfInBounds_toArray, List.set_cons_zero, List.set_cons_succ])
  refine takeH 6 (some 10) (v := ?_) rfl rfl (by kernel_rfl) (by kernel_rfl) (by kernel_rfl) (fun _ _ _ h => h) (Or.inl ⟨by kernel_rfl, ?_⟩) hHeld1 ?_
  rotate_left
  · intro w' hSw
    obtain ⟨s0, s1, s2, s3, s4, s5, s6, s7, s8⟩ := hSw.cells
    go_simp
    try with_reducible rfl
  (try simp only [Act.put, List.setIfInBounds_toArray, List.set_cons_zero, List.set_cons_succ])
  refine callH 7 (some 11) (f := 46) (args := ?_) rfl rfl (by kernel_rfl) (by kernel_rfl) ?_ ?_
  rotate_left
  · go_simp
    try with_reducible rfl
  refine (HE.out _ hHeld1.1).mono ?_
  rintro e w3 ⟨rfl, hb3⟩
  have hHeld2 := hHeld1.below hb3
  refine ⟨_, rfl, hHeld2, ?_⟩
  (try simp only [Act.put, List.setIfInBounds_toArray, List.set_cons_zero, List.set_cons_succ])
  refine takeH 8 (some 12) (v := ?_) rfl rfl (by kernel_rfl) (by kernel_rfl) (by kernel_rfl) (fun _ _ _ h => h) (Or.inl ⟨by kernel_rfl, ?_⟩) hHeld2 ?_
  rotate_left
  · intro w' hSw
    obtain ⟨s0, s1, s2, s3, s4, s5, s6, s7, s8⟩ := hSw.cells
    go_simp
    try with_reducible rfl
  (try simp only [Act.put, List.setIfInBounds_toArray, List.set_cons_zero, List.set_cons_succ])
  refine takeH 9 (some 13) (v := ?_) rfl rfl (by kernel_rfl) (by kernel_rfl) (by kernel_rfl) (fun _ _ _ h => h) (Or.inl ⟨by kernel_rfl, ?_⟩) hHeld2 ?_
  rotate_left
  · intro w' hSw
    obtain ⟨s0, s1, s2, s3, s4, s5, s6, s7, s8⟩ := hSw.cells
    go_simp
    try with_reducible rfl
  (try simp only [Act.put, List.setIfInBounds_toArray, List.set_cons_zero, List.set_cons_succ])
  obtain ⟨pv0, pv1, pc0, pc1, pz0, pz1⟩ := hHeld2.pos
  have hHeld3 : (AkS w (askO a n c l q (t : Nat) key cnt arg want op)) ((w3.setCell ⟨w.heap.size + 1, 0, none⟩ (.int .i64 ((tl : Nat)))).setCell ⟨w.heap.size + 1, 1, none⟩ (.int .i64 ((p2 : Nat)))) := hHeld2.store _ _
  refine storeH 10 (w' := (w3.setCell ⟨w.heap.size + 1, 0, none⟩ (.int .i64 ((tl : Nat)))).setCell ⟨w.heap.size + 1, 1, none⟩ (.int .i64 ((p2 : Nat)))) rfl rfl (by kernel_rfl) (by kernel_rfl) ?_ hHeld3 ?_
  · go_simp
    try rfl
  (try simp only [Act.put, List.setIfInBounds_toArray, List.set_cons_zero, List.set_cons_succ])
  refine takeH 11 (some 3) (v := ?_) rfl rfl (by kernel_rfl) (by kernel_rfl) (by kernel_rfl) (fun _ _ _ h => h) (Or.inl ⟨by kernel_rfl, ?_⟩) hHeld3 ?_
  rotate_left
  · intro w' hSw
    obtain ⟨s0, s1, s2, s3, s4, s5, s6, s7, s8⟩ := hSw.cells
    go_simp
    try with_reducible rfl
  (try simp only [Act.put, List.setIfInBounds_toArray, List.set_cons_zero, List.set_cons_succ])
  refine wpAnyH_done (by kernel_rfl) ?_ _
  go_wp2_with fail
  refine bodyPost_ret (v := .tuple #[.agg #[.int .i64 ((tl : Nat)), .int .i64 ((p2 : Nat))], .bool (tb)]) ?_ rfl ⟨rfl, ?_⟩
  · rw [results_ct rfl]
    go_simp
  · exact hHeld3.1
set_option maxHeartbeats 1000000 in
theorem firstFromHere_any (F : Nat → Prop) (a : Option Addr) (n c l q : Nat) (t : Nat) (key cnt arg want : Int) (op : Bool) (L : List (List Int)) (w : World) (h : RdL F w a n c L) (hp : okP L (l, q)) (ht : (t : Int) ≤ 9223372036854775807) (ht1 : 1 ≤ t) :
    Calls Try.prog 22 #[askL a n c l q (t : Nat) key cnt arg want op] w fun e w' => e = .returned (.tuple #[plV ((dnL n l (t - 1)).1, firstR (lnL L (dnL n l (t - 1)).1)), .bool (dnL n l (t - 1)).2]) ∧ Below w.heap.size w w' := by
  have hln : L.length = n := h.len
  have hl : l < n := by rw [← hln]; exact hp.1
  have hsm := h.small
  have hq : (q : Int) ≤ 9223372036854775807 := by
    have h2 := hp.2
    simp only at h2
    obtain ⟨b, off, ra, rc, -, -, -, -, -, hrd, -⟩ := h.get (Below.refl _ w) (List.getElem?_eq_getElem (l := L) (i := l) (by omega))
    have := hrd.small
    unfold lnL at h2
    rw [List.getD_eq_getElem?_getD, List.getElem?_eq_getElem (by omega)] at h2
    simp only [Option.getD_some] at h2
    omega
  obtain ⟨v, hv⟩ : ∃ v, t - 1 = v := ⟨_, rfl⟩
  have m1 : (t : Int) - 1 = (v : Int) := by omega
  have m4 : IntKind.i64.wrap (v : Int) = (v : Int) := by rw [IntKind.wrap_i64]; omega
  rw [hv]
  have hlt : (dnL n l v).1 < n := dnL_lt v hl
  have HD : Hid (∀ W, Calls Try.prog 44 #[askL a n c l q (t : Nat) key cnt arg want op, .int .i64 (v : Nat)] W fun e w' => e = .returned (.tuple #[.int .i64 ((dnL n l v).1 : Nat), .bool (dnL n l v).2]) ∧ Below W.heap.size W w') := fun W => down_any a n c l q t key cnt arg want op v W hsm hl
  obtain ⟨⟨tl, tb⟩, htl⟩ : ∃ y, (dnL n l v) = y := ⟨_, rfl⟩
  rw [htl] at HD hlt ⊢
  simp only at HD hlt ⊢
  have hx : L[tl]? = some (lnL L tl) := by unfold lnL; rw [List.getD_eq_getElem?_getD, List.getElem?_eq_getElem (by omega)]; rfl
  obtain ⟨p2, hpp⟩ : ∃ p, firstR (lnL L tl) = p := ⟨_, rfl⟩
  have HE : Hid (∀ W, Below w.heap.size w W → Calls Try.prog 46 #[askL a n c l q (t : Nat) key cnt arg want op, .int .i64 (tl : Nat), .bool tb] W fun e w' => e = .returned (.tuple #[.agg #[.int .i64 (tl : Nat), .int .i64 (p2 : Nat)], .bool tb]) ∧ Below W.heap.size W w') := by
    intro W hW
    have := first_any F a n c l q t key cnt arg want op L tl (lnL L tl) tb W (h.below hW) hx
    rw [hpp] at this
    exact this
  rw [hpp]
  clear h hp hpp htl hx hln
  obtain ⟨w1, hw1, ha1⟩ := lead_start w (askO a n c l q (t : Nat) key cnt arg want op)
  have HW1 := Lib.hid hw1
  have HA1 := Lib.hid ha1
  clear hw1 ha1
  go_enter Try.func22, Try.ntmps22
  go_upto_region 1 with fail
  rw [HW1.out]
  refine wp_region_held (S := AkS w (askO a n c l q (t : Nat) key cnt arg want op)) (by kernel_rfl) ?_
  change wpAnyH _ _ _ _ _ _ _ _ (World.drew _)
  have hHeld : (AkS w (askO a n c l q (t : Nat) key cnt arg want op)) (World.drew w1) := HA1.out.drew
  refine takeH 0 (some 4) (v := ?_) rfl rfl (by kernel_rfl) (by kernel_rfl) (by kernel_rfl) (fun _ _ _ h => h) (Or.inl ⟨by kernel_rfl, ?_⟩) hHeld ?_
  rotate_left
  · intro w' hSw
    obtain ⟨s0, s1, s2, s3, s4, s5, s6, s7, s8⟩ := hSw.cells
    go_simp
    try with_reducible rfl
  (try simp only [Act.put, List.setIfInBounds_toArray, List.set_cons_zero, List.set_cons_succ])
  refine takeH 1 (some 5) (v := ?_) rfl rfl (by kernel_rfl) (by kernel_rfl) (by kernel_rfl) (fun _ _ _ h => h) (Or.inl ⟨by kernel_rfl, ?_⟩) hHeld ?_
  rotate_left
  · intro w' hSw
    obtain ⟨s0, s1, s2, s3, s4, s5, s6, s7, s8⟩ := hSw.cells
    go_simp
    try with_reducible rfl
  (try simp only [Act.put, List.setIfInBounds_toArray, List.set_cons_zero, List.set_cons_succ])
  refine takeH 2 (some 6) (v := ?_) rfl rfl (by kernel_rfl) (by kernel_rfl) (by kernel_rfl) (fun _ _ _ h => h) (Or.inl ⟨by kernel_rfl, ?_⟩) hHeld ?_
  rotate_left
  · intro w' hSw
    obtain ⟨s0, s1, s2, s3, s4, s5, s6, s7, s8⟩ := hSw.cells
    go_simp
    try with_reducible rfl
  (try simp only [Act.put, List.setIfInBounds_toArray, List.set_cons_zero, List.set_cons_succ])
  refine takeH 3 (some 7) (v := ?_) rfl rfl (by kernel_rfl) (by kernel_rfl) (by kernel_rfl) (fun _ _ _ h => h) (Or.inl ⟨by kernel_rfl, ?_⟩) hHeld ?_
  rotate_left
  · intro w' hSw
    obtain ⟨s0, s1, s2, s3, s4, s5, s6, s7, s8⟩ := hSw.cells
    go_simp
    try with_reducible rfl
  (try simp only [Act.put, List.setIfInBounds_toArray, List.set_cons_zero, List.set_cons_succ])
  refine takeH 4 (some 8) (v := ?_) rfl rfl (by kernel_rfl) (by kernel_rfl) (by kernel_rfl) (fun _ _ _ h => h) (Or.inl ⟨by kernel_rfl, ?_⟩) hHeld ?_
  rotate_left
  · intro w' hSw
    obtain ⟨s0, s1, s2, s3, s4, s5, s6, s7, s8⟩ := hSw.cells
    go_simp
    try with_reducible rfl
  (try simp only [Act.put, List.setIfInBounds_toArray, List.set_cons_zero, List.set_cons_succ])
  refine callH 5 (some 9) (f := 44) (args := ?_) rfl rfl (by kernel_rfl) (by kernel_rfl) ?_ ?_
  rotate_left
  · go_simp
    try with_reducible rfl
  refine (HD.out _).mono ?_
  rintro e w2 ⟨rfl, hb2⟩
  have hHeld1 := hHeld.below hb2
  refine ⟨_, rfl, hHeld1, ?_⟩
  (try simp only [Act.put, List.setIfInBounds_toArray, List.set_cons_zero, List.set_cons_succ])
  refine takeH 6 (some 10) (v := ?_) rfl rfl (by kernel_rfl) (by kernel_rfl) (by kernel_rfl) (fun _ _ _ h => h) (Or.inl ⟨by kernel_rfl, ?_⟩) hHeld1 ?_
  rotate_left
  · intro w' hSw
    obtain ⟨s0, s1, s2, s3, s4, s5, s6, s7, s8⟩ := hSw.cells
    go_simp
    try with_reducible rfl
  (try simp only [Act.put, List.setIfInBounds_toArray, List.set_cons_zero, List.set_cons_succ])
  refine takeH 7 (some 11) (v := ?_) rfl rfl (by kernel_rfl) (by kernel_rfl) (by kernel_rfl) (fun _ _ _ h => h) (Or.inl ⟨by kernel_rfl, ?_⟩) hHeld1 ?_
  rotate_left
  · intro w' hSw
    obtain ⟨s0, s1, s2, s3, s4, s5, s6, s7, s8⟩ := hSw.cells
    go_simp
    try with_reducible rfl
  (try simp only [Act.put, List.setIfInBounds_toArray, List.set_cons_zero, List.set_cons_succ])
  refine callH 8 (some 12) (f := 46) (args := ?_) rfl rfl (by kernel_rfl) (by kernel_rfl) ?_ ?_
  rotate_left
  · go_simp
    try with_reducible rfl
  refine (HE.out _ hHeld1.1).mono ?_
  rintro e w3 ⟨rfl, hb3⟩
  have hHeld2 := hHeld1.below hb3
  refine ⟨_, rfl, hHeld2, ?_⟩
  (try simp only [Act.put, List.setIfInBounds_toArray, List.set_cons_zero, List.set_cons_succ])
  refine takeH 9 (some 13) (v := ?_) rfl rfl (by kernel_rfl) (by kernel_rfl) (by kernel_rfl) (fun _ _ _ h => h) (Or.inl ⟨by kernel_rfl, ?_⟩) hHeld2 ?_
  rotate_left
  · intro w' hSw
    obtain ⟨s0, s1, s2, s3, s4, s5, s6, s7, s8⟩ := hSw.cells
    go_simp
    try with_reducible rfl
  (try simp only [Act.put, List.setIfInBounds_toArray, List.set_cons_zero, List.set_cons_succ])
  refine takeH 10 (some 14) (v := ?_) rfl rfl (by kernel_rfl) (by kernel_rfl) (by kernel_rfl) (fun _ _ _ h => h) (Or.inl ⟨by kernel_rfl, ?_⟩) hHeld2 ?_
  rotate_left
  · intro w' hSw
    obtain ⟨s0, s1, s2, s3, s4, s5, s6, s7, s8⟩ := hSw.cells
    go_simp
    try with_reducible rfl
  (try simp only [Act.put, List.setIfInBounds_toArray, List.set_cons_zero, List.set_cons_succ])
  obtain ⟨pv0, pv1, pc0, pc1, pz0, pz1⟩ := hHeld2.pos
  have hHeld3 : (AkS w (askO a n c l q (t : Nat) key cnt arg want op)) ((w3.setCell ⟨w.heap.size + 1, 0, none⟩ (.int .i64 ((tl : Nat)))).setCell ⟨w.heap.size + 1, 1, none⟩ (.int .i64 ((p2 : Nat)))) := hHeld2.store _ _
  refine storeH 11 (w' := (w3.setCell ⟨w.heap.size + 1, 0, none⟩ (.int .i64 ((tl : Nat)))).setCell ⟨w.heap.size + 1, 1, none⟩ (.int .i64 ((p2 : Nat)))) rfl rfl (by kernel_rfl) (by kernel_rfl) ?_ hHeld3 ?_
  · go_simp
    try rfl
  (try simp only [Act.put, List.setIfInBounds_toArray, List.set_cons_zero, List.set_cons_succ])
  refine takeH 12 (some 3) (v := ?_) rfl rfl (by kernel_rfl) (by kernel_rfl) (by kernel_rfl) (fun _ _ _ h => h) (Or.inl ⟨by kernel_rfl, ?_⟩) hHeld3 ?_
  rotate_left
  · intro w' hSw
    obtain ⟨s0, s1, s2, s3, s4, s5, s6, s7, s8⟩ := hSw.cells
    go_simp
    try with_reducible rfl
  (try simp only [Act.put, List.setIfInBounds_toArray, List.set_cons_zero, List.set_cons_succ])
  refine wpAnyH_done (by kernel_rfl) ?_ _
  go_wp2_with fail
  refine bodyPost_ret (v := .tuple #[.agg #[.int .i64 ((tl : Nat)), .int .i64 ((p2 : Nat))], .bool (tb)]) ?_ rfl ⟨rfl, ?_⟩
  · rw [results_ct rfl]
    go_simp
  · exact hHeld3.1
set_option maxHeartbeats 1000000 in
theorem column_any (F : Nat → Prop) (a : Option Addr) (n c l q : Nat) (t : Nat) (key cnt arg want : Int) (op : Bool) (L : List (List Int)) (w : World) (h : RdL F w a n c L) (hp : okP L (l, q)) (ht : (t : Int) ≤ 9223372036854775807) (ht1 : 1 ≤ t) :
    Calls Try.prog 28 #[askL a n c l q (t : Nat) key cnt arg want op] w fun e w' => e = .returned (.tuple #[plV (clipP L (l : Nat) ((t - 1 : Nat) : Int)), .bool true]) ∧ Below w.heap.size w w' := by
  have hln : L.length = n := h.len
  have hl : l < n := by rw [← hln]; exact hp.1
  have hsm := h.small
  have hq : (q : Int) ≤ 9223372036854775807 := by
    have h2 := hp.2
    simp only at h2
    obtain ⟨b, off, ra, rc, -, -, -, -, -, hrd, -⟩ := h.get (Below.refl _ w) (List.getElem?_eq_getElem (l := L) (i := l) (by omega))
    have := hrd.small
    unfold lnL at h2
    rw [List.getD_eq_getElem?_getD, List.getElem?_eq_getElem (by omega)] at h2
    simp only [Option.getD_some] at h2
    omega
  obtain ⟨v, hv⟩ : ∃ v, t - 1 = v := ⟨_, rfl⟩
  have m1 : (t : Int) - 1 = (v : Int) := by omega
  have m4 : IntKind.i64.wrap (v : Int) = (v : Int) := by rw [IntKind.wrap_i64]; omega
  rw [hv]
  obtain ⟨⟨p1, p2⟩, hpp⟩ : ∃ p, clipP L (l : Nat) (v : Nat) = p := ⟨_, rfl⟩
  have HE : Hid (∀ W, Below w.heap.size w W → Calls Try.prog 13 #[.slice a n c, .agg #[.int .i64 (l : Nat), .int .i64 (v : Nat)]] W fun e w' => e = .returned (.agg #[.int .i64 (p1 : Nat), .int .i64 (p2 : Nat)]) ∧ Below W.heap.size W w') := by
    intro W hW
    have := wclip_any F a n c L ⟨(l : Nat), (v : Nat)⟩ W (h.below hW) ⟨⟨by show _ ≤ (l : Int); omega, by show (l : Int) ≤ _; omega⟩, by show _ ≤ (v : Int); omega, by show (v : Int) ≤ _; omega⟩
    simp only [hpp] at this
    exact this
  rw [hpp]
  clear h hp hpp hln hv
  obtain ⟨w1, hw1, ha1⟩ := lead_start w (askO a n c l q (t : Nat) key cnt arg want op)
  have HW1 := Lib.hid hw1
  have HA1 := Lib.hid ha1
  clear hw1 ha1
  go_enter Try.func28, Try.ntmps28
  go_upto_region 1 with fail
  rw [HW1.out]
  refine wp_region_held (S := AkS w (askO a n c l q (t : Nat) key cnt arg want op)) (by kernel_rfl) ?_
  change wpAnyH _ _ _ _ _ _ _ _ (World.drew _)
  have hHeld : (AkS w (askO a n c l q (t : Nat) key cnt arg want op)) (World.drew w1) := HA1.out.drew
  refine takeH 0 (some 4) (v := ?_) rfl rfl (by kernel_rfl) (by kernel_rfl) (by kernel_rfl) (fun _ _ _ h => h) (Or.inl ⟨by kernel_rfl, ?_⟩) hHeld ?_
  rotate_left
  · intro w' hSw
    obtain ⟨s0, s1, s2, s3, s4, s5, s6, s7, s8⟩ := hSw.cells
    go_simp
    try with_reducible rfl
  (try simp only [Act.put, List.setIfInBounds_toArray, List.set_cons_zero, List.set_cons_succ])
  refine takeH 1 (some 5) (v := ?_) rfl rfl (by kernel_rfl) (by kernel_rfl) (by kernel_rfl) (fun _ _ _ h => h) (Or.inl ⟨by kernel_rfl, ?_⟩) hHeld ?_
  rotate_left
  · intro w' hSw
    obtain ⟨s0, s1, s2, s3, s4, s5, s6, s7, s8⟩ := hSw.cells
    go_simp
    try with_reducible rfl
  (try simp only [Act.put, List.setIfInBounds_toArray, List.set_cons_zero, List.set_cons_succ])
  refine takeH 2 (some 6) (v := ?_) rfl rfl (by kernel_rfl) (by kernel_rfl) (by kernel_rfl) (fun _ _ _ h => h) (Or.inl ⟨by kernel_rfl, ?_⟩) hHeld ?_
  rotate_left
  · intro w' hSw
    obtain ⟨s0, s1, s2, s3, s4, s5, s6, s7, s8⟩ := hSw.cells
    go_simp
    try with_reducible rfl
  (try simp only [Act.put, List.setIfInBounds_toArray, List.set_cons_zero, List.set_cons_succ])
  refine takeH 3 (some 7) (v := ?_) rfl rfl (by kernel_rfl) (by kernel_rfl) (by kernel_rfl) (fun _ _ _ h => h) (Or.inl ⟨by kernel_rfl, ?_⟩) hHeld ?_
  rotate_left
  · intro w' hSw
    obtain ⟨s0, s1, s2, s3, s4, s5, s6, s7, s8⟩ := hSw.cells
    go_simp
    try with_reducible rfl
  (try simp only [Act.put, List.setIfInBounds_toArray, List.set_cons_zero, List.set_cons_succ])
  refine takeH 4 (some 8) (v := ?_) rfl rfl (by kernel_rfl) (by kernel_rfl) (by kernel_rfl) (fun _ _ _ h => h) (Or.inl ⟨by kernel_rfl, ?_⟩) hHeld ?_
  rotate_left
  · intro w' hSw
    obtain ⟨s0, s1, s2, s3, s4, s5, s6, s7, s8⟩ := hSw.cells
    go_simp
    try with_reducible rfl
  (try simp only [Act.put, List.setIfInBounds_toArray, List.set_cons_zero, List.set_cons_succ])
  refine takeH 5 (some 9) (v := ?_) rfl rfl (by kernel_rfl) (by kernel_rfl) (by kernel_rfl) (fun _ _ _ h => h) (Or.inl ⟨by kernel_rfl, ?_⟩) hHeld ?_
  rotate_left
  · intro w' hSw
    obtain ⟨s0, s1, s2, s3, s4, s5, s6, s7, s8⟩ := hSw.cells
    go_simp
    try with_reducible rfl
  (try simp only [Act.put, List.setIfInBounds_toArray, List.set_cons_zero, List.set_cons_succ])
  refine callH 6 (some 10) (f := 41) (args := ?_) rfl rfl (by kernel_rfl) (by kernel_rfl) ?_ ?_
  rotate_left
  · go_simp
    try with_reducible rfl
  refine (inline_any _ _ _ _ _ _ _ _ _ _ _ _ _).mono ?_
  rintro e w2 ⟨rfl, hb2⟩
  have hHeld1 := hHeld.below hb2
  refine ⟨_, rfl, hHeld1, ?_⟩
  (try simp only [Act.put, List.setIfInBounds_toArray, List.set_cons_zero, List.set_cons_succ])
  refine callH 7 (some 11) (f := 13) (args := ?_) rfl rfl (by kernel_rfl) (by kernel_rfl) ?_ ?_
  rotate_left
  · go_simp
    try with_reducible rfl
  refine (HE.out _ hHeld1.1).mono ?_
  rintro e w3 ⟨rfl, hb3⟩
  have hHeld2 := hHeld1.below hb3
  refine ⟨_, rfl, hHeld2, ?_⟩
  (try simp only [Act.put, List.setIfInBounds_toArray, List.set_cons_zero, List.set_cons_succ])
  obtain ⟨pv0, pv1, pc0, pc1, pz0, pz1⟩ := hHeld2.pos
  have hHeld3 : (AkS w (askO a n c l q (t : Nat) key cnt arg want op)) ((w3.setCell ⟨w.heap.size + 1, 0, none⟩ (.int .i64 ((p1 : Nat)))).setCell ⟨w.heap.size + 1, 1, none⟩ (.int .i64 ((p2 : Nat)))) := hHeld2.store _ _
  refine storeH 8 (w' := (w3.setCell ⟨w.heap.size + 1, 0, none⟩ (.int .i64 ((p1 : Nat)))).setCell ⟨w.heap.size + 1, 1, none⟩ (.int .i64 ((p2 : Nat)))) rfl rfl (by kernel_rfl) (by kernel_rfl) ?_ hHeld3 ?_
  · go_simp
    try rfl
  (try simp only [Act.put, List.setIfInBounds_toArray, List.set_cons_zero, List.set_cons_succ])
  refine takeH 9 (some 3) (v := ?_) rfl rfl (by kernel_rfl) (by kernel_rfl) (by kernel_rfl) (fun _ _ _ h => h) (Or.inl ⟨by kernel_rfl, ?_⟩) hHeld3 ?_
  rotate_left
  · intro w' hSw
    obtain ⟨s0, s1, s2, s3, s4, s5, s6, s7, s8⟩ := hSw.cells
    go_simp
    try with_reducible rfl
  (try simp only [Act.put, List.setIfInBounds_toArray, List.set_cons_zero, List.set_cons_succ])
  refine wpAnyH_done (by kernel_rfl) ?_ _
  go_wp2_with fail
  refine bodyPost_ret (v := .tuple #[.agg #[.int .i64 ((p1 : Nat)), .int .i64 ((p2 : Nat))], .bool (true)]) ?_ rfl ⟨rfl, ?_⟩
  · rw [results_ct rfl]
    go_simp
  · exact hHeld3.1
end Go.Proofs.Ytikdojebnbmpoaa.U
