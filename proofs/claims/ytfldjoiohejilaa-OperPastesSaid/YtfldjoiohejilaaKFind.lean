/-
  The program's isAhead, find. (MADE by wip/tools/gen_kfind.py.)
-/
import Derived.Test.YtfldjoiohejilaaKLeaf
import Derived.Test.YtfldjoiohejilaaJPart
import Derived.Test.YtfldjoiohejilaaJTake
import Derived.Deep.RegionHeld3
import Derived.BigRegion
namespace Go.Proofs.Ytfldjoiohejilaa.U
open Go.RowKit
set_option linter.unusedVariables false
set_option linter.unusedSimpArgs false
set_option maxRecDepth 100000

theorem kahead_any (p q : Pl) (w : World) :
    Calls Try.prog 77 #[plV p, plV q] w fun e w' => e = .returned (.bool (aheadP p q)) ∧ Below w.heap.size w w' := by
  obtain ⟨a, b⟩ := p
  obtain ⟨c, d⟩ := q
  show Calls Try.prog 77 #[.agg #[.int .i64 (a : Nat), .int .i64 (b : Nat)], .agg #[.int .i64 (c : Nat), .int .i64 (d : Nat)]] w _
  by_cases h1 : a < c
  · have d1 : decide ((a : Int) < (c : Int)) = true := by simp; omega
    have hr : aheadP (a, b) (c, d) = true := by rw [aheadP_iff]; exact Or.inl h1
    rw [hr]
    clear hr
    go_enter Try.func77, Try.ntmps77
    go_wp2
    go_ret
    exact ⟨ret_bool (by first | rfl | (simp; omega)), ((Below.refl _ w).alloc (Nat.le_refl _) _).alloc (by simp) _⟩
  have d1 : decide ((a : Int) < (c : Int)) = false := by simp; omega
  by_cases h2 : a = c
  · subst h2
    have e1 : ((a : Int) == (a : Int)) = true := by simp
    by_cases h3 : b < d
    · have d2 : decide ((b : Int) < (d : Int)) = true := by simp; omega
      have hr : aheadP (a, b) (a, d) = true := by rw [aheadP_iff]; exact Or.inr ⟨rfl, h3⟩
      rw [hr]
      clear hr
      go_enter Try.func77, Try.ntmps77
      go_wp2
      go_ret
      exact ⟨ret_bool (by first | rfl | (simp; omega)), ((Below.refl _ w).alloc (Nat.le_refl _) _).alloc (by simp) _⟩
    · have d2 : decide ((b : Int) < (d : Int)) = false := by simp; omega
      have hr : aheadP (a, b) (a, d) = false := by simp [aheadP]; omega
      rw [hr]
      clear hr
      go_enter Try.func77, Try.ntmps77
      go_wp2
      go_ret
      exact ⟨ret_bool (by first | rfl | (simp; omega)), ((Below.refl _ w).alloc (Nat.le_refl _) _).alloc (by simp) _⟩
  · have e1 : ((a : Int) == (c : Int)) = false := by simp; omega
    have hr : aheadP (a, b) (c, d) = false := by simp [aheadP]; omega
    rw [hr]
    clear hr
    go_enter Try.func77, Try.ntmps77
    go_wp2
    go_ret
    exact ⟨ret_bool (by first | rfl | (simp; omega)), ((Below.refl _ w).alloc (Nat.le_refl _) _).alloc (by simp) _⟩
/-- a region that is there, as the program has it -/
def areaV (k : Int) (A B : Pl) (lo hi : Nat) : Value := .agg #[.int .i64 k, .int .i64 (A.1 : Nat), .int .i64 (A.2 : Nat), .int .i64 (B.1 : Nat), .int .i64 (B.2 : Nat), .int .i64 (lo : Nat), .int .i64 (hi : Nat)]
/-- an area's box -/
structure ArB (b : Nat) (v0 v1 v2 v3 v4 v5 v6 : Value) (W : World) : Prop where
  c0 : W.cell? ⟨b, 0, none⟩ = some v0
  c1 : W.cell? ⟨b, 1, none⟩ = some v1
  c2 : W.cell? ⟨b, 2, none⟩ = some v2
  c3 : W.cell? ⟨b, 3, none⟩ = some v3
  c4 : W.cell? ⟨b, 4, none⟩ = some v4
  c5 : W.cell? ⟨b, 5, none⟩ = some v5
  c6 : W.cell? ⟨b, 6, none⟩ = some v6
  z0 : W.frozen? ⟨b, 0, none⟩ = false
  z1 : W.frozen? ⟨b, 1, none⟩ = false
  z2 : W.frozen? ⟨b, 2, none⟩ = false
  z3 : W.frozen? ⟨b, 3, none⟩ = false
  z4 : W.frozen? ⟨b, 4, none⟩ = false
  z5 : W.frozen? ⟨b, 5, none⟩ = false
  z6 : W.frozen? ⟨b, 6, none⟩ = false
  l : b < W.heap.size
theorem ArB.of {b : Nat} {v0 v1 v2 v3 v4 v5 v6 : Value} {W : World} {t : TypeId} (h : W.heap[b]? = some (.cells #[v0, v1, v2, v3, v4, v5, v6] t (0, 0))) : ArB b v0 v1 v2 v3 v4 v5 v6 W :=
  ⟨cell_row h 0, cell_row h 1, cell_row h 2, cell_row h 3, cell_row h 4, cell_row h 5, cell_row h 6, frozen_row h 0, frozen_row h 1, frozen_row h 2, frozen_row h 3, frozen_row h 4, frozen_row h 5, frozen_row h 6, heap_lt h⟩
def ArH (b : Nat) (vs : Array Value) (W : World) : Prop := W.heap[b]? = some (.cells vs 68 (0, 0))
theorem ArH.below {b : Nat} {vs : Array Value} {w W : World} (h : ArH b vs w) (hb : Below w.heap.size w W) : ArH b vs W := (hb.block b (heap_lt h)).trans h
/-- find's boxes: the region, the result -/
def FiS (w : World) (b : Nat) (r : Rgn) (W : World) : Prop := Below b w W ∧ RgB b r W ∧ ArH (b + 1) #[.int .i64 0, .int .i64 0, .int .i64 0, .int .i64 0, .int .i64 0, .int .i64 0, .int .i64 0] W
theorem FiS.below {w W W' : World} {b : Nat} {r : Rgn} (h : FiS w b r W) (hw : w.heap.size = b) (hb : Below W.heap.size W W') : FiS w b r W' :=
  ⟨h.1.trans (hb.mono (by have := h.1.size; omega)), h.2.1.below hb, h.2.2.below hb⟩
theorem cell_blockK {w w' : World} {b i : Nat} (h : w'.heap[b]? = w.heap[b]?) : w'.cell? ⟨b, i, none⟩ = w.cell? ⟨b, i, none⟩ := World.cell?_of_block (a := ⟨b, i, none⟩) h
theorem fis_new (w : World) (r : Rgn) : FiS w w.heap.size r ((w.alloc (.cells #[.int .i64 r.f.l, .int .i64 r.f.c, .int .i64 r.t.l, .int .i64 r.t.c, .int .i64 r.k] 26)).alloc (.cells #[.int .i64 0, .int .i64 0, .int .i64 0, .int .i64 0, .int .i64 0, .int .i64 0, .int .i64 0] 68)) := by
  obtain ⟨g1, g2⟩ := two_new w #[.int .i64 r.f.l, .int .i64 r.f.c, .int .i64 r.t.l, .int .i64 r.t.c, .int .i64 r.k] #[.int .i64 0, .int .i64 0, .int .i64 0, .int .i64 0, .int .i64 0, .int .i64 0, .int .i64 0] 26 68 _ (Below.refl _ _)
  exact ⟨((Below.refl _ _).alloc (Nat.le_refl _) _).alloc (by simp) _, RgB.of g1, g2⟩
set_option maxHeartbeats 8000000 in
/-- why a region is none -/
theorem kfind_no (F : Nat → Prop) (a : Option Addr) (n c : Nat) (L : List (List Int)) (r : Rgn) (R : Int) (w : World) (h : RdL F w a n c L) (hr : i64r r) (hR : thereR L r = R) (hR0 : R ≠ 0) :
    Calls Try.prog 38 #[.slice a n c, r.v] w fun e w' => e = .returned (.tuple #[areaV 0 (0, 0) (0, 0) 0 0, .int .i64 R]) ∧ Below w.heap.size w w' := by
  obtain ⟨⟨f1, f2⟩, ⟨t1, t2⟩, k⟩ := r
  obtain ⟨hf, ht, hk1, hk2⟩ := hr
  simp only at hf ht hk1 hk2
  show Calls Try.prog 38 #[.slice a n c, .agg #[.int .i64 f1, .int .i64 f2, .int .i64 t1, .int .i64 t2, .int .i64 k]] w _
  have hl := h.len
  have hsm := h.small
  obtain ⟨wb, hwb⟩ : ∃ wb, (w.alloc (.cells #[.int .i64 f1, .int .i64 f2, .int .i64 t1, .int .i64 t2, .int .i64 k] 26)).alloc (.cells #[.int .i64 0, .int .i64 0, .int .i64 0, .int .i64 0, .int .i64 0, .int .i64 0, .int .i64 0] 68) = wb := ⟨_, rfl⟩
  have hnew := fis_new w ⟨⟨f1, f2⟩, ⟨t1, t2⟩, k⟩
  simp only at hnew
  rw [hwb] at hnew
  have HC : ∀ (q : Po), i64p q → Hid (∀ W, Hid (FiS w w.heap.size ⟨⟨f1, f2⟩, ⟨t1, t2⟩, k⟩ W) → Calls Try.prog 53 #[.slice a n c, .agg #[.int .i64 q.l, .int .i64 q.c]] W fun e w' => e = .returned (.agg #[.int .i64 ((clipZ L q).1 : Nat), .int .i64 ((clipZ L q).2 : Nat)]) ∧ Hid (FiS w w.heap.size ⟨⟨f1, f2⟩, ⟨t1, t2⟩, k⟩ w')) := by
    intro q hq W hW
    refine (wclip_any F a n c L q W (h.below hW.out.1) hq).mono ?_
    rintro e w' ⟨rfl, hb⟩
    exact ⟨rfl, hW.out.below rfl hb⟩
  have HC1 := HC ⟨f1, f2⟩ hf
  have HC2 := HC ⟨t1, t2⟩ ht
  clear HC
  simp only at HC1 HC2
  have HS0 := Lib.hid hnew
  have HK : Hid (∀ W, Calls Try.prog 76 #[.int .i64 k] W fun e w' => e = .returned (.bool (decide (0 ≤ k) && decide (k ≤ 2))) ∧ W = w') := fun W => (kkind_any k W).mono fun _ _ h => ⟨h.1, h.2.symm⟩
  obtain ⟨b, hbe⟩ : ∃ b, w.heap.size = b := ⟨_, rfl⟩
  have HBE := Lib.hid hbe
  rw [hbe] at HC1 HC2 HS0
  rw [hbe]
  have HSD : Hid (FiS w b ⟨⟨f1, f2⟩, ⟨t1, t2⟩, k⟩ wb.drew) := HS0.out.below hbe (Below.refl _ _).drew
  obtain ⟨c0, c1, c2, c3, c4, l0⟩ := HS0.out.2.1
  simp only at c0 c1 c2 c3 c4
  have HW := Lib.hid hwb
  unfold thereR at hR
  simp only at hR
  obtain ⟨⟨x1, x2⟩, hx⟩ : ∃ x, clipZ L ⟨f1, f2⟩ = x := ⟨_, rfl⟩
  obtain ⟨⟨y1, y2⟩, hy⟩ : ∃ y, clipZ L ⟨t1, t2⟩ = y := ⟨_, rfl⟩
  rw [hx] at HC1 hR
  rw [hy] at HC2 hR
  simp only [upP, Po.mk.injEq, ne_eq] at hR
  simp only at HC1 HC2
  have hL : L = [] ↔ n = 0 := by
    constructor
    · rintro rfl; simpa using hl.symm
    · intro e; exact List.eq_nil_of_length_eq_zero (by omega)
  simp only [hL] at hR
  have HR := Lib.hid hR
  have HR0 : Hid (R ≠ 0) := hR0
  clear hwb hnew hbe h hl hL hx hy hR hR0
  go_enter Try.func38, Try.ntmps38
  go_upto_region 1 with fail
  rw [HBE.out, HW.out]
  by_cases hk : k < 0 ∨ 2 < k
  · have HKF : Hid (∀ W, Calls Try.prog 76 #[.int .i64 k] W fun e w' => e = .returned (.bool false) ∧ W = w') := fun W => by
      have e1 : (decide (0 ≤ k) && decide (k ≤ 2)) = false := by simp; omega
      have := HK.out W
      rw [e1] at this
      exact this
    clear HK
    go_upto_region 2 with (go_at_call 76; (refine (HKF.out _).mono ?_); rintro e wq ⟨rfl, hwq⟩; subst hwq)
    have HRX : R = 1 := by rw [← HR.out, if_pos hk]
    subst HRX
    obtain ⟨g0, g1, g2, g3, g4, g5, g6, z0, z1, z2, z3, z4, z5, z6, zl⟩ := ArB.of HS0.out.2.2
    have HB := Lib.hid HS0.out.1
    go_wp2
    refine bodyPost_ret (v := .tuple #[areaV 0 (0, 0) (0, 0) 0 0, .int .i64 1]) ?_ rfl ⟨rfl, ?_⟩
    · rw [results_ct rfl]
      go_simp
      first | rfl | done | (simp [areaV]; done)
    · (try with_reducible refine Below.drew ?_)
      (repeat' (first | (with_reducible exact HB.out) | (with_reducible exact HB.out.drew) | (with_reducible refine setCell_below ?_ _ _ _ ?_) | omega))
  have HKT : Hid (∀ W, Calls Try.prog 76 #[.int .i64 k] W fun e w' => e = .returned (.bool true) ∧ W = w') := fun W => by
    have e1 : (decide (0 ≤ k) && decide (k ≤ 2)) = true := by simp; omega
    have := HK.out W
    rw [e1] at this
    exact this
  clear HK
  by_cases n0 : n = 0
  · subst n0
    go_upto_region 3 with (go_at_call 76; (refine (HKT.out _).mono ?_); rintro e wq ⟨rfl, hwq⟩; subst hwq)
    go_region
    all_goals
      have HRX : R = 2 := by rw [← HR.out, if_neg hk, if_pos (Or.inl (by first | trivial | rfl))]
      subst HRX
      obtain ⟨g0, g1, g2, g3, g4, g5, g6, z0, z1, z2, z3, z4, z5, z6, zl⟩ := ArB.of HS0.out.2.2
      have HB := Lib.hid HS0.out.1
      go_wp2
      refine bodyPost_ret (v := .tuple #[areaV 0 (0, 0) (0, 0) 0 0, .int .i64 2]) ?_ rfl ⟨rfl, ?_⟩
      · rw [results_ct rfl]
        go_simp
        first | rfl | done | (simp [areaV]; done)
      · (try with_reducible refine Below.drew ?_)
        (repeat' (first | (with_reducible exact HB.out) | (with_reducible exact HB.out.drew) | (with_reducible refine setCell_below ?_ _ _ _ ?_) | omega))
  have n0' : ((n : Int) == 0) = false := by simp; omega
  go_upto_region 3 with (go_at_call 76; (refine (HKT.out _).mono ?_); rintro e wq ⟨rfl, hwq⟩; subst hwq)
  by_cases e1 : (x1 : Int) = f1
  · subst e1
    by_cases e2 : (x2 : Int) = f2
    · subst e2
      by_cases e3 : (y1 : Int) = t1
      · subst e3
        by_cases e4 : (y2 : Int) = t2
        · exfalso
          exact HR0.out (by rw [← HR.out, if_neg hk, if_neg (by simp [n0, e4])])
        · have q4 : ((y2 : Int) == t2) = false := by simpa using e4
          have KS : ∀ W, FiS w b ⟨⟨(x1 : Nat), (x2 : Nat)⟩, ⟨(y1 : Nat), t2⟩, k⟩ W → (fun W => W.cell? ⟨b, 0, none⟩ = some (.int .i64 (x1 : Nat)) ∧ W.cell? ⟨b, 1, none⟩ = some (.int .i64 (x2 : Nat)) ∧ W.cell? ⟨b, 2, none⟩ = some (.int .i64 (y1 : Nat)) ∧ W.cell? ⟨b, 3, none⟩ = some (.int .i64 t2)) W := fun W hW => ⟨hW.2.1.c0, hW.2.1.c1, hW.2.1.c2, hW.2.1.c3⟩
          have HKS := Lib.hid KS
          clear KS c0 c1 c2 c3 c4 l0
          go_region_held3 (fun W => W.cell? ⟨b, 0, none⟩ = some (.int .i64 (x1 : Nat)) ∧ W.cell? ⟨b, 1, none⟩ = some (.int .i64 (x2 : Nat)) ∧ W.cell? ⟨b, 2, none⟩ = some (.int .i64 (y1 : Nat)) ∧ W.cell? ⟨b, 3, none⟩ = some (.int .i64 t2))
            (first | exact HKS.out _ HSD.out | exact HKS.out _ HS1.out | exact HKS.out _ HS2.out)
            (first | (go_at_call 53; (with_reducible refine (HC2.out _ HS1).mono ?_); rintro e w2 ⟨rfl, HS2⟩) | (go_at_call 53; (with_reducible refine (HC1.out _ HSD).mono ?_); rintro e w1 ⟨rfl, HS1⟩))
          all_goals
            have HRX : R = 2 := by rw [← HR.out, if_neg hk, if_pos (by simp [e4])]
            subst HRX
            obtain ⟨g0, g1, g2, g3, g4, g5, g6, z0, z1, z2, z3, z4, z5, z6, zl⟩ := ArB.of HS2.out.2.2
            have HB := Lib.hid HS2.out.1
            go_wp2
            refine bodyPost_ret (v := .tuple #[areaV 0 (0, 0) (0, 0) 0 0, .int .i64 2]) ?_ rfl ⟨rfl, ?_⟩
            · rw [results_ct rfl]
              go_simp
              first | rfl | done | (simp [areaV]; done)
            · (try with_reducible refine Below.drew ?_)
              (repeat' (first | (with_reducible exact HB.out) | (with_reducible exact HB.out.drew) | (with_reducible refine setCell_below ?_ _ _ _ ?_) | omega))
      · have q3 : ((y1 : Int) == t1) = false := by simpa using e3
        have KS : ∀ W, FiS w b ⟨⟨(x1 : Nat), (x2 : Nat)⟩, ⟨t1, t2⟩, k⟩ W → (fun W => W.cell? ⟨b, 0, none⟩ = some (.int .i64 (x1 : Nat)) ∧ W.cell? ⟨b, 1, none⟩ = some (.int .i64 (x2 : Nat)) ∧ W.cell? ⟨b, 2, none⟩ = some (.int .i64 t1) ∧ W.cell? ⟨b, 3, none⟩ = some (.int .i64 t2)) W := fun W hW => ⟨hW.2.1.c0, hW.2.1.c1, hW.2.1.c2, hW.2.1.c3⟩
        have HKS := Lib.hid KS
        clear KS c0 c1 c2 c3 c4 l0
        go_region_held3 (fun W => W.cell? ⟨b, 0, none⟩ = some (.int .i64 (x1 : Nat)) ∧ W.cell? ⟨b, 1, none⟩ = some (.int .i64 (x2 : Nat)) ∧ W.cell? ⟨b, 2, none⟩ = some (.int .i64 t1) ∧ W.cell? ⟨b, 3, none⟩ = some (.int .i64 t2))
          (first | exact HKS.out _ HSD.out | exact HKS.out _ HS1.out | exact HKS.out _ HS2.out)
          (first | (go_at_call 53; (with_reducible refine (HC2.out _ HS1).mono ?_); rintro e w2 ⟨rfl, HS2⟩) | (go_at_call 53; (with_reducible refine (HC1.out _ HSD).mono ?_); rintro e w1 ⟨rfl, HS1⟩))
        all_goals
          have HRX : R = 2 := by rw [← HR.out, if_neg hk, if_pos (by simp [e3])]
          subst HRX
          obtain ⟨g0, g1, g2, g3, g4, g5, g6, z0, z1, z2, z3, z4, z5, z6, zl⟩ := ArB.of HS2.out.2.2
          have HB := Lib.hid HS2.out.1
          go_wp2
          refine bodyPost_ret (v := .tuple #[areaV 0 (0, 0) (0, 0) 0 0, .int .i64 2]) ?_ rfl ⟨rfl, ?_⟩
          · rw [results_ct rfl]
            go_simp
            first | rfl | done | (simp [areaV]; done)
          · (try with_reducible refine Below.drew ?_)
            (repeat' (first | (with_reducible exact HB.out) | (with_reducible exact HB.out.drew) | (with_reducible refine setCell_below ?_ _ _ _ ?_) | omega))
    · have q2 : ((x2 : Int) == f2) = false := by simpa using e2
      refine wp_region_held (S := fun W => FiS w b ⟨⟨(x1 : Nat), f2⟩, ⟨t1, t2⟩, k⟩ W) (by kernel_rfl) ?_
      change wpAnyH _ _ _ _ _ _ _ _ (World.drew _)
      have hH : (fun W => FiS w b ⟨⟨(x1 : Nat), f2⟩, ⟨t1, t2⟩, k⟩ W) (World.drew wb) := HSD.out
      refine takeH 0 (some 12) (v := ?_) rfl rfl (by kernel_rfl) (by kernel_rfl) (by kernel_rfl) (fun _ _ _ h => h) (Or.inl ⟨by kernel_rfl, ?_⟩) hH ?_
      rotate_left
      · intro w' hSw
        obtain ⟨-, ⟨s0, s1, s2, s3, s4, s5⟩, -⟩ := hSw
        go_simp
        try with_reducible rfl
      (try simp only [Act.put, List.setIfInBounds_toArray, List.set_cons_zero, List.set_cons_succ])
      refine takeH 1 (some 13) (v := ?_) rfl rfl (by kernel_rfl) (by kernel_rfl) (by kernel_rfl) (fun _ _ _ h => h) (Or.inl ⟨by kernel_rfl, ?_⟩) hH ?_
      rotate_left
      · intro w' hSw
        obtain ⟨-, ⟨s0, s1, s2, s3, s4, s5⟩, -⟩ := hSw
        go_simp
        try with_reducible rfl
      (try simp only [Act.put, List.setIfInBounds_toArray, List.set_cons_zero, List.set_cons_succ])
      refine takeH 2 (some 14) (v := ?_) rfl rfl (by kernel_rfl) (by kernel_rfl) (by kernel_rfl) (fun _ _ _ h => h) (Or.inl ⟨by kernel_rfl, ?_⟩) hH ?_
      rotate_left
      · intro w' hSw
        obtain ⟨-, ⟨s0, s1, s2, s3, s4, s5⟩, -⟩ := hSw
        go_simp
        try with_reducible rfl
      (try simp only [Act.put, List.setIfInBounds_toArray, List.set_cons_zero, List.set_cons_succ])
      refine takeH 3 (some 15) (v := ?_) rfl rfl (by kernel_rfl) (by kernel_rfl) (by kernel_rfl) (fun _ _ _ h => h) (Or.inl ⟨by kernel_rfl, ?_⟩) hH ?_
      rotate_left
      · intro w' hSw
        obtain ⟨-, ⟨s0, s1, s2, s3, s4, s5⟩, -⟩ := hSw
        go_simp
        try with_reducible rfl
      (try simp only [Act.put, List.setIfInBounds_toArray, List.set_cons_zero, List.set_cons_succ])
      refine takeH 4 (some 16) (v := ?_) rfl rfl (by kernel_rfl) (by kernel_rfl) (by kernel_rfl) (fun _ _ _ h => h) (Or.inl ⟨by kernel_rfl, ?_⟩) hH ?_
      rotate_left
      · intro w' hSw
        obtain ⟨-, ⟨s0, s1, s2, s3, s4, s5⟩, -⟩ := hSw
        go_simp
        try with_reducible rfl
      (try simp only [Act.put, List.setIfInBounds_toArray, List.set_cons_zero, List.set_cons_succ])
      refine takeH 5 (some 17) (v := ?_) rfl rfl (by kernel_rfl) (by kernel_rfl) (by kernel_rfl) (fun _ _ _ h => h) (Or.inl ⟨by kernel_rfl, ?_⟩) hH ?_
      rotate_left
      · intro w' hSw
        obtain ⟨-, ⟨s0, s1, s2, s3, s4, s5⟩, -⟩ := hSw
        go_simp
        try with_reducible rfl
      (try simp only [Act.put, List.setIfInBounds_toArray, List.set_cons_zero, List.set_cons_succ])
      refine takeH 6 (some 18) (v := ?_) rfl rfl (by kernel_rfl) (by kernel_rfl) (by kernel_rfl) (fun _ _ _ h => h) (Or.inl ⟨by kernel_rfl, ?_⟩) hH ?_
      rotate_left
      · intro w' hSw
        obtain ⟨-, ⟨s0, s1, s2, s3, s4, s5⟩, -⟩ := hSw
        go_simp
        try with_reducible rfl
      (try simp only [Act.put, List.setIfInBounds_toArray, List.set_cons_zero, List.set_cons_succ])
      refine takeH 8 (some 20) (v := ?_) rfl rfl (by kernel_rfl) (by kernel_rfl) (by kernel_rfl) (fun _ _ _ h => h) (Or.inl ⟨by kernel_rfl, ?_⟩) hH ?_
      rotate_left
      · intro w' hSw
        obtain ⟨-, ⟨s0, s1, s2, s3, s4, s5⟩, -⟩ := hSw
        go_simp
        try with_reducible rfl
      (try simp only [Act.put, List.setIfInBounds_toArray, List.set_cons_zero, List.set_cons_succ])
      refine takeH 9 (some 21) (v := ?_) rfl rfl (by kernel_rfl) (by kernel_rfl) (by kernel_rfl) (fun _ _ _ h => h) (Or.inl ⟨by kernel_rfl, ?_⟩) hH ?_
      rotate_left
      · intro w' hSw
        obtain ⟨-, ⟨s0, s1, s2, s3, s4, s5⟩, -⟩ := hSw
        go_simp
        try with_reducible rfl
      (try simp only [Act.put, List.setIfInBounds_toArray, List.set_cons_zero, List.set_cons_succ])
      refine callH 7 (some 19) (f := 53) (args := ?_) rfl rfl (by kernel_rfl) (by kernel_rfl) ?_ ?_
      rotate_left
      · go_simp
        try with_reducible rfl
      refine (HC1.out _ (Lib.hid hH)).mono ?_
      rintro e w1 ⟨rfl, HS1⟩
      have hH1 := HS1.out
      refine ⟨_, rfl, hH1, ?_⟩
      (try simp only [Act.put, List.setIfInBounds_toArray, List.set_cons_zero, List.set_cons_succ])
      refine takeH 10 (some 22) (v := ?_) rfl rfl (by kernel_rfl) (by kernel_rfl) (by kernel_rfl) (fun _ _ _ h => h) (Or.inl ⟨by kernel_rfl, ?_⟩) hH1 ?_
      rotate_left
      · intro w' hSw
        obtain ⟨-, ⟨s0, s1, s2, s3, s4, s5⟩, -⟩ := hSw
        go_simp
        try with_reducible rfl
      (try simp only [Act.put, List.setIfInBounds_toArray, List.set_cons_zero, List.set_cons_succ])
      refine takeH 11 (some 23) (v := ?_) rfl rfl (by kernel_rfl) (by kernel_rfl) (by kernel_rfl) (fun _ _ _ h => h) (Or.inl ⟨by kernel_rfl, ?_⟩) hH1 ?_
      rotate_left
      · intro w' hSw
        obtain ⟨-, ⟨s0, s1, s2, s3, s4, s5⟩, -⟩ := hSw
        go_simp
        try with_reducible rfl
      (try simp only [Act.put, List.setIfInBounds_toArray, List.set_cons_zero, List.set_cons_succ])
      refine takeH 12 (some 24) (v := ?_) rfl rfl (by kernel_rfl) (by kernel_rfl) (by kernel_rfl) (fun _ _ _ h => h) (Or.inl ⟨by kernel_rfl, ?_⟩) hH1 ?_
      rotate_left
      · intro w' hSw
        obtain ⟨-, ⟨s0, s1, s2, s3, s4, s5⟩, -⟩ := hSw
        go_simp
        try with_reducible rfl
      (try simp only [Act.put, List.setIfInBounds_toArray, List.set_cons_zero, List.set_cons_succ])
      refine takeH 13 (some 25) (v := undef) rfl rfl (by kernel_rfl) (by kernel_rfl) (by kernel_rfl) (fun _ _ _ h => h) (Or.inr ⟨by kernel_rfl, rfl⟩) hH1 ?_
      (try simp only [Act.put, List.setIfInBounds_toArray, List.set_cons_zero, List.set_cons_succ])
      refine takeH 14 (some 26) (v := undef) rfl rfl (by kernel_rfl) (by kernel_rfl) (by kernel_rfl) (fun _ _ _ h => h) (Or.inr ⟨by kernel_rfl, rfl⟩) hH1 ?_
      (try simp only [Act.put, List.setIfInBounds_toArray, List.set_cons_zero, List.set_cons_succ])
      refine takeH 15 (some 27) (v := undef) rfl rfl (by kernel_rfl) (by kernel_rfl) (by kernel_rfl) (fun _ _ _ h => h) (Or.inr ⟨by kernel_rfl, rfl⟩) hH1 ?_
      (try simp only [Act.put, List.setIfInBounds_toArray, List.set_cons_zero, List.set_cons_succ])
      refine takeH 16 (some 28) (v := undef) rfl rfl (by kernel_rfl) (by kernel_rfl) (by kernel_rfl) (fun _ _ _ h => h) (Or.inr ⟨by kernel_rfl, rfl⟩) hH1 ?_
      (try simp only [Act.put, List.setIfInBounds_toArray, List.set_cons_zero, List.set_cons_succ])
      refine takeH 17 (some 29) (v := undef) rfl rfl (by kernel_rfl) (by kernel_rfl) (by kernel_rfl) (fun _ _ _ h => h) (Or.inr ⟨by kernel_rfl, rfl⟩) hH1 ?_
      (try simp only [Act.put, List.setIfInBounds_toArray, List.set_cons_zero, List.set_cons_succ])
      refine takeH 18 (some 30) (v := undef) rfl rfl (by kernel_rfl) (by kernel_rfl) (by kernel_rfl) (fun _ _ _ h => h) (Or.inr ⟨by kernel_rfl, rfl⟩) hH1 ?_
      (try simp only [Act.put, List.setIfInBounds_toArray, List.set_cons_zero, List.set_cons_succ])
      refine takeH 19 (some 31) (v := undef) rfl rfl (by kernel_rfl) (by kernel_rfl) (by kernel_rfl) (fun _ _ _ h => h) (Or.inr ⟨by kernel_rfl, rfl⟩) hH1 ?_
      (try simp only [Act.put, List.setIfInBounds_toArray, List.set_cons_zero, List.set_cons_succ])
      refine takeH 20 (some 32) (v := ?_) rfl rfl (by kernel_rfl) (by kernel_rfl) (by kernel_rfl) (fun _ _ _ h => h) (Or.inl ⟨by kernel_rfl, ?_⟩) hH1 ?_
      rotate_left
      · intro w' hSw
        obtain ⟨-, ⟨s0, s1, s2, s3, s4, s5⟩, -⟩ := hSw
        go_simp
        try with_reducible rfl
      (try simp only [Act.put, List.setIfInBounds_toArray, List.set_cons_zero, List.set_cons_succ])
      refine wpAnyH_done (by kernel_rfl) ?_ _
      have HRX : R = 2 := by rw [← HR.out, if_neg hk, if_pos (by simp [e2])]
      subst HRX
      obtain ⟨g0, g1, g2, g3, g4, g5, g6, z0, z1, z2, z3, z4, z5, z6, zl⟩ := ArB.of HS1.out.2.2
      have HB := Lib.hid HS1.out.1
      go_wp2
      refine bodyPost_ret (v := .tuple #[areaV 0 (0, 0) (0, 0) 0 0, .int .i64 2]) ?_ rfl ⟨rfl, ?_⟩
      · rw [results_ct rfl]
        go_simp
        first | rfl | done | (simp [areaV]; done)
      · (try with_reducible refine Below.drew ?_)
        (repeat' (first | (with_reducible exact HB.out) | (with_reducible exact HB.out.drew) | (with_reducible refine setCell_below ?_ _ _ _ ?_) | omega))
  · have q1 : ((x1 : Int) == f1) = false := by simpa using e1
    refine wp_region_held (S := fun W => FiS w b ⟨⟨f1, f2⟩, ⟨t1, t2⟩, k⟩ W) (by kernel_rfl) ?_
    change wpAnyH _ _ _ _ _ _ _ _ (World.drew _)
    have hH : (fun W => FiS w b ⟨⟨f1, f2⟩, ⟨t1, t2⟩, k⟩ W) (World.drew wb) := HSD.out
    refine takeH 0 (some 12) (v := ?_) rfl rfl (by kernel_rfl) (by kernel_rfl) (by kernel_rfl) (fun _ _ _ h => h) (Or.inl ⟨by kernel_rfl, ?_⟩) hH ?_
    rotate_left
    · intro w' hSw
      obtain ⟨-, ⟨s0, s1, s2, s3, s4, s5⟩, -⟩ := hSw
      go_simp
      try with_reducible rfl
    (try simp only [Act.put, List.setIfInBounds_toArray, List.set_cons_zero, List.set_cons_succ])
    refine takeH 1 (some 13) (v := ?_) rfl rfl (by kernel_rfl) (by kernel_rfl) (by kernel_rfl) (fun _ _ _ h => h) (Or.inl ⟨by kernel_rfl, ?_⟩) hH ?_
    rotate_left
    · intro w' hSw
      obtain ⟨-, ⟨s0, s1, s2, s3, s4, s5⟩, -⟩ := hSw
      go_simp
      try with_reducible rfl
    (try simp only [Act.put, List.setIfInBounds_toArray, List.set_cons_zero, List.set_cons_succ])
    refine takeH 2 (some 14) (v := ?_) rfl rfl (by kernel_rfl) (by kernel_rfl) (by kernel_rfl) (fun _ _ _ h => h) (Or.inl ⟨by kernel_rfl, ?_⟩) hH ?_
    rotate_left
    · intro w' hSw
      obtain ⟨-, ⟨s0, s1, s2, s3, s4, s5⟩, -⟩ := hSw
      go_simp
      try with_reducible rfl
    (try simp only [Act.put, List.setIfInBounds_toArray, List.set_cons_zero, List.set_cons_succ])
    refine takeH 3 (some 15) (v := ?_) rfl rfl (by kernel_rfl) (by kernel_rfl) (by kernel_rfl) (fun _ _ _ h => h) (Or.inl ⟨by kernel_rfl, ?_⟩) hH ?_
    rotate_left
    · intro w' hSw
      obtain ⟨-, ⟨s0, s1, s2, s3, s4, s5⟩, -⟩ := hSw
      go_simp
      try with_reducible rfl
    (try simp only [Act.put, List.setIfInBounds_toArray, List.set_cons_zero, List.set_cons_succ])
    refine takeH 4 (some 16) (v := ?_) rfl rfl (by kernel_rfl) (by kernel_rfl) (by kernel_rfl) (fun _ _ _ h => h) (Or.inl ⟨by kernel_rfl, ?_⟩) hH ?_
    rotate_left
    · intro w' hSw
      obtain ⟨-, ⟨s0, s1, s2, s3, s4, s5⟩, -⟩ := hSw
      go_simp
      try with_reducible rfl
    (try simp only [Act.put, List.setIfInBounds_toArray, List.set_cons_zero, List.set_cons_succ])
    refine takeH 5 (some 17) (v := ?_) rfl rfl (by kernel_rfl) (by kernel_rfl) (by kernel_rfl) (fun _ _ _ h => h) (Or.inl ⟨by kernel_rfl, ?_⟩) hH ?_
    rotate_left
    · intro w' hSw
      obtain ⟨-, ⟨s0, s1, s2, s3, s4, s5⟩, -⟩ := hSw
      go_simp
      try with_reducible rfl
    (try simp only [Act.put, List.setIfInBounds_toArray, List.set_cons_zero, List.set_cons_succ])
    refine takeH 6 (some 18) (v := ?_) rfl rfl (by kernel_rfl) (by kernel_rfl) (by kernel_rfl) (fun _ _ _ h => h) (Or.inl ⟨by kernel_rfl, ?_⟩) hH ?_
    rotate_left
    · intro w' hSw
      obtain ⟨-, ⟨s0, s1, s2, s3, s4, s5⟩, -⟩ := hSw
      go_simp
      try with_reducible rfl
    (try simp only [Act.put, List.setIfInBounds_toArray, List.set_cons_zero, List.set_cons_succ])
    refine takeH 8 (some 20) (v := ?_) rfl rfl (by kernel_rfl) (by kernel_rfl) (by kernel_rfl) (fun _ _ _ h => h) (Or.inl ⟨by kernel_rfl, ?_⟩) hH ?_
    rotate_left
    · intro w' hSw
      obtain ⟨-, ⟨s0, s1, s2, s3, s4, s5⟩, -⟩ := hSw
      go_simp
      try with_reducible rfl
    (try simp only [Act.put, List.setIfInBounds_toArray, List.set_cons_zero, List.set_cons_succ])
    refine takeH 9 (some 21) (v := ?_) rfl rfl (by kernel_rfl) (by kernel_rfl) (by kernel_rfl) (fun _ _ _ h => h) (Or.inl ⟨by kernel_rfl, ?_⟩) hH ?_
    rotate_left
    · intro w' hSw
      obtain ⟨-, ⟨s0, s1, s2, s3, s4, s5⟩, -⟩ := hSw
      go_simp
      try with_reducible rfl
    (try simp only [Act.put, List.setIfInBounds_toArray, List.set_cons_zero, List.set_cons_succ])
    refine callH 7 (some 19) (f := 53) (args := ?_) rfl rfl (by kernel_rfl) (by kernel_rfl) ?_ ?_
    rotate_left
    · go_simp
      try with_reducible rfl
    refine (HC1.out _ (Lib.hid hH)).mono ?_
    rintro e w1 ⟨rfl, HS1⟩
    have hH1 := HS1.out
    refine ⟨_, rfl, hH1, ?_⟩
    (try simp only [Act.put, List.setIfInBounds_toArray, List.set_cons_zero, List.set_cons_succ])
    refine takeH 10 (some 22) (v := ?_) rfl rfl (by kernel_rfl) (by kernel_rfl) (by kernel_rfl) (fun _ _ _ h => h) (Or.inl ⟨by kernel_rfl, ?_⟩) hH1 ?_
    rotate_left
    · intro w' hSw
      obtain ⟨-, ⟨s0, s1, s2, s3, s4, s5⟩, -⟩ := hSw
      go_simp
      try with_reducible rfl
    (try simp only [Act.put, List.setIfInBounds_toArray, List.set_cons_zero, List.set_cons_succ])
    refine takeH 11 (some 23) (v := ?_) rfl rfl (by kernel_rfl) (by kernel_rfl) (by kernel_rfl) (fun _ _ _ h => h) (Or.inl ⟨by kernel_rfl, ?_⟩) hH1 ?_
    rotate_left
    · intro w' hSw
      obtain ⟨-, ⟨s0, s1, s2, s3, s4, s5⟩, -⟩ := hSw
      go_simp
      try with_reducible rfl
    (try simp only [Act.put, List.setIfInBounds_toArray, List.set_cons_zero, List.set_cons_succ])
    refine takeH 12 (some 24) (v := ?_) rfl rfl (by kernel_rfl) (by kernel_rfl) (by kernel_rfl) (fun _ _ _ h => h) (Or.inl ⟨by kernel_rfl, ?_⟩) hH1 ?_
    rotate_left
    · intro w' hSw
      obtain ⟨-, ⟨s0, s1, s2, s3, s4, s5⟩, -⟩ := hSw
      go_simp
      try with_reducible rfl
    (try simp only [Act.put, List.setIfInBounds_toArray, List.set_cons_zero, List.set_cons_succ])
    refine takeH 13 (some 25) (v := undef) rfl rfl (by kernel_rfl) (by kernel_rfl) (by kernel_rfl) (fun _ _ _ h => h) (Or.inr ⟨by kernel_rfl, rfl⟩) hH1 ?_
    (try simp only [Act.put, List.setIfInBounds_toArray, List.set_cons_zero, List.set_cons_succ])
    refine takeH 14 (some 26) (v := undef) rfl rfl (by kernel_rfl) (by kernel_rfl) (by kernel_rfl) (fun _ _ _ h => h) (Or.inr ⟨by kernel_rfl, rfl⟩) hH1 ?_
    (try simp only [Act.put, List.setIfInBounds_toArray, List.set_cons_zero, List.set_cons_succ])
    refine takeH 15 (some 27) (v := undef) rfl rfl (by kernel_rfl) (by kernel_rfl) (by kernel_rfl) (fun _ _ _ h => h) (Or.inr ⟨by kernel_rfl, rfl⟩) hH1 ?_
    (try simp only [Act.put, List.setIfInBounds_toArray, List.set_cons_zero, List.set_cons_succ])
    refine takeH 16 (some 28) (v := undef) rfl rfl (by kernel_rfl) (by kernel_rfl) (by kernel_rfl) (fun _ _ _ h => h) (Or.inr ⟨by kernel_rfl, rfl⟩) hH1 ?_
    (try simp only [Act.put, List.setIfInBounds_toArray, List.set_cons_zero, List.set_cons_succ])
    refine takeH 17 (some 29) (v := undef) rfl rfl (by kernel_rfl) (by kernel_rfl) (by kernel_rfl) (fun _ _ _ h => h) (Or.inr ⟨by kernel_rfl, rfl⟩) hH1 ?_
    (try simp only [Act.put, List.setIfInBounds_toArray, List.set_cons_zero, List.set_cons_succ])
    refine takeH 18 (some 30) (v := undef) rfl rfl (by kernel_rfl) (by kernel_rfl) (by kernel_rfl) (fun _ _ _ h => h) (Or.inr ⟨by kernel_rfl, rfl⟩) hH1 ?_
    (try simp only [Act.put, List.setIfInBounds_toArray, List.set_cons_zero, List.set_cons_succ])
    refine takeH 19 (some 31) (v := undef) rfl rfl (by kernel_rfl) (by kernel_rfl) (by kernel_rfl) (fun _ _ _ h => h) (Or.inr ⟨by kernel_rfl, rfl⟩) hH1 ?_
    (try simp only [Act.put, List.setIfInBounds_toArray, List.set_cons_zero, List.set_cons_succ])
    refine takeH 20 (some 32) (v := ?_) rfl rfl (by kernel_rfl) (by kernel_rfl) (by kernel_rfl) (fun _ _ _ h => h) (Or.inl ⟨by kernel_rfl, ?_⟩) hH1 ?_
    rotate_left
    · intro w' hSw
      obtain ⟨-, ⟨s0, s1, s2, s3, s4, s5⟩, -⟩ := hSw
      go_simp
      try with_reducible rfl
    (try simp only [Act.put, List.setIfInBounds_toArray, List.set_cons_zero, List.set_cons_succ])
    refine wpAnyH_done (by kernel_rfl) ?_ _
    have HRX : R = 2 := by rw [← HR.out, if_neg hk, if_pos (by simp [e1])]
    subst HRX
    obtain ⟨g0, g1, g2, g3, g4, g5, g6, z0, z1, z2, z3, z4, z5, z6, zl⟩ := ArB.of HS1.out.2.2
    have HB := Lib.hid HS1.out.1
    go_wp2
    refine bodyPost_ret (v := .tuple #[areaV 0 (0, 0) (0, 0) 0 0, .int .i64 2]) ?_ rfl ⟨rfl, ?_⟩
    · rw [results_ct rfl]
      go_simp
      first | rfl | done | (simp [areaV]; done)
    · (try with_reducible refine Below.drew ?_)
      (repeat' (first | (with_reducible exact HB.out) | (with_reducible exact HB.out.drew) | (with_reducible refine setCell_below ?_ _ _ _ ?_) | omega))
end Go.Proofs.Ytfldjoiohejilaa.U
