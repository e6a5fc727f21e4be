/-
  The document's there, parted, First.
-/
import Derived.Test.YtfldjoiohejilaaJHas
import Derived.Test.YtfldjoiohejilaaRHand
import Derived.Deep.RegionHeld3
namespace Go.Proofs.Ytfldjoiohejilaa.U
open Go.RowKit
set_option linter.unusedVariables false
set_option linter.unusedSimpArgs false
set_option maxRecDepth 100000

/-- a region's box -/
structure RgB (b : Nat) (r : Rgn) (W : World) : Prop where
  c0 : W.cell? ⟨b, 0, none⟩ = some (.int .i64 r.f.l)
  c1 : W.cell? ⟨b, 1, none⟩ = some (.int .i64 r.f.c)
  c2 : W.cell? ⟨b, 2, none⟩ = some (.int .i64 r.t.l)
  c3 : W.cell? ⟨b, 3, none⟩ = some (.int .i64 r.t.c)
  c4 : W.cell? ⟨b, 4, none⟩ = some (.int .i64 r.k)
  l0 : b < W.heap.size
theorem RgB.of {b : Nat} {r : Rgn} {W : World} {t : TypeId} (h : W.heap[b]? = some (.cells #[.int .i64 r.f.l, .int .i64 r.f.c, .int .i64 r.t.l, .int .i64 r.t.c, .int .i64 r.k] t (0, 0))) : RgB b r W :=
  ⟨cell_row h 0, cell_row h 1, cell_row h 2, cell_row h 3, cell_row h 4, heap_lt h⟩
theorem RgB.below {b : Nat} {r : Rgn} {w W : World} (h : RgB b r w) (hb : Below w.heap.size w W) : RgB b r W := by
  have hs := hb.size
  have hl := h.l0
  exact ⟨(hb.cell (p := ⟨b, 0, none⟩) hl).trans h.c0, (hb.cell (p := ⟨b, 1, none⟩) hl).trans h.c1, (hb.cell (p := ⟨b, 2, none⟩) hl).trans h.c2, (hb.cell (p := ⟨b, 3, none⟩) hl).trans h.c3, (hb.cell (p := ⟨b, 4, none⟩) hl).trans h.c4, by omega⟩
theorem rg_new (w : World) (r : Rgn) : RgB w.heap.size r (w.alloc (.cells #[.int .i64 r.f.l, .int .i64 r.f.c, .int .i64 r.t.l, .int .i64 r.t.c, .int .i64 r.k] 26)) := RgB.of (heap_alloc_new w _)
def i64r (r : Rgn) : Prop := i64p r.f ∧ i64p r.t ∧ i64b r.k
theorem ret_i64 {x y : Int} (h : x = y) : Ending.returned (.int .i64 x) = Ending.returned (.int .i64 y) := by rw [h]
set_option maxHeartbeats 4000000 in
theorem rthereR_any (F : Nat → Prop) (a : Option Addr) (n c : Nat) (L : List (List Int)) (r : Rgn) (R : Int) (w : World) (h : RdL F w a n c L) (hr : i64r r) (hR : thereR L r = R) :
    Calls Try.prog 42 #[.slice a n c, r.v] w fun e w' => e = .returned (.int .i64 R) ∧ Below w.heap.size w w' := by
  obtain ⟨⟨f1, f2⟩, ⟨t1, t2⟩, k⟩ := r
  obtain ⟨hf, ht, hk1, hk2⟩ := hr
  simp only at hf ht hk1 hk2
  show Calls Try.prog 42 #[.slice a n c, .agg #[.int .i64 f1, .int .i64 f2, .int .i64 t1, .int .i64 t2, .int .i64 k]] w _
  have hl := h.len
  have hsm := h.small
  obtain ⟨wb, hwb⟩ : ∃ wb, w.alloc (.cells #[.int .i64 f1, .int .i64 f2, .int .i64 t1, .int .i64 t2, .int .i64 k] 26) = wb := ⟨_, rfl⟩
  have hnew := rg_new w ⟨⟨f1, f2⟩, ⟨t1, t2⟩, k⟩
  have hB : Below w.heap.size w wb := by rw [← hwb]; exact (Below.refl _ _).alloc (Nat.le_refl _) _
  simp only at hnew
  rw [hwb] at hnew
  have HC : ∀ (q : Po), i64p q → Hid (∀ W, Hid (Below w.heap.size w W ∧ RgB w.heap.size ⟨⟨f1, f2⟩, ⟨t1, t2⟩, k⟩ W) → Calls Try.prog 32 #[.slice a n c, .agg #[.int .i64 q.l, .int .i64 q.c]] W fun e w' => e = .returned (.agg #[.int .i64 ((clipZ L q).1 : Nat), .int .i64 ((clipZ L q).2 : Nat)]) ∧ RgB w.heap.size ⟨⟨f1, f2⟩, ⟨t1, t2⟩, k⟩ w' ∧ Hid (Below w.heap.size w w' ∧ RgB w.heap.size ⟨⟨f1, f2⟩, ⟨t1, t2⟩, k⟩ w')) := by
    intro q hq W hW
    refine (rclip_any F a n c L q W (h.below hW.out.1) hq).mono ?_
    rintro e w' ⟨rfl, hb⟩
    have h1 := hW.out.2.below hb
    exact ⟨rfl, h1, hW.out.1.trans (hb.mono hW.out.1.size), h1⟩
  have HC1 := HC ⟨f1, f2⟩ hf
  have HC2 := HC ⟨t1, t2⟩ ht
  clear HC
  simp only at HC1 HC2
  have HS0 : Hid (Below w.heap.size w wb ∧ RgB w.heap.size ⟨⟨f1, f2⟩, ⟨t1, t2⟩, k⟩ wb) := ⟨hB, hnew⟩
  obtain ⟨b, hbe⟩ : ∃ b, w.heap.size = b := ⟨_, rfl⟩
  have HBE := Lib.hid hbe
  rw [hbe] at HC1 HC2 HS0
  rw [hbe]
  have HSD : Hid (Below b w wb.drew ∧ RgB b ⟨⟨f1, f2⟩, ⟨t1, t2⟩, k⟩ wb.drew) := ⟨HS0.out.1.drew, HS0.out.2.below (Below.refl _ _).drew⟩
  obtain ⟨c0, c1, c2, c3, c4, l0⟩ := HS0.out.2
  simp only at c0 c1 c2 c3 c4
  have HW := Lib.hid hwb
  unfold thereR at hR
  simp only at hR
  obtain ⟨⟨x1, x2⟩, hx⟩ : ∃ x, clipZ L ⟨f1, f2⟩ = x := ⟨_, rfl⟩
  obtain ⟨⟨y1, y2⟩, hy⟩ : ∃ y, clipZ L ⟨t1, t2⟩ = y := ⟨_, rfl⟩
  rw [hx] at HC1 hR
  rw [hy] at HC2 hR
  simp only [upP, Po.mk.injEq, ne_eq] at hR
  simp only at HC1 HC2
  have hL : L = [] ↔ n = 0 := by
    constructor
    · rintro rfl; simpa using hl.symm
    · intro e; exact List.eq_nil_of_length_eq_zero (by omega)
  simp only [hL] at hR
  have HR := Lib.hid hR
  clear hwb hB hnew hbe h hl hL hx hy hR
  go_enter Try.func42, Try.ntmps42
  go_upto_region 1 with fail
  rw [HBE.out, HW.out]
  by_cases k1 : k < 0
  · go_wp2
    go_ret
    exact ⟨ret_i64 (by rw [← HR.out, if_pos (Or.inl k1)]), HS0.out.1⟩
  by_cases k2 : 2 < k
  · go_wp2
    go_ret
    exact ⟨ret_i64 (by rw [← HR.out, if_pos (Or.inr k2)]), HS0.out.1⟩
  have hk : ¬ (k < 0 ∨ 2 < k) := by omega
  by_cases n0 : n = 0
  · subst n0
    go_upto_region 3 with fail
    go_region
    all_goals
      go_wp2
      go_ret
      exact ⟨ret_i64 (by rw [← HR.out, if_neg hk, if_pos (Or.inl (by first | trivial | rfl))]), HSD.out.1⟩
  have n0' : ((n : Int) == 0) = false := by simp; omega
  go_upto_region 3 with fail
  by_cases e1 : (x1 : Int) = f1
  · subst e1
    by_cases e2 : (x2 : Int) = f2
    · subst e2
      by_cases e3 : (y1 : Int) = t1
      · subst e3
        by_cases e4 : (y2 : Int) = t2
        · subst e4
          have KS : ∀ W, (Below b w W ∧ RgB b ⟨⟨(x1 : Nat), (x2 : Nat)⟩, ⟨(y1 : Nat), (y2 : Nat)⟩, k⟩ W) → (fun W => W.cell? ⟨b, 0, none⟩ = some (.int .i64 (x1 : Nat)) ∧ W.cell? ⟨b, 1, none⟩ = some (.int .i64 (x2 : Nat)) ∧ W.cell? ⟨b, 2, none⟩ = some (.int .i64 (y1 : Nat)) ∧ W.cell? ⟨b, 3, none⟩ = some (.int .i64 (y2 : Nat))) W := fun W hW => ⟨hW.2.c0, hW.2.c1, hW.2.c2, hW.2.c3⟩
          have HKS := Lib.hid KS
          clear KS c0 c1 c2 c3 c4 l0
          go_region_held3 (fun W => W.cell? ⟨b, 0, none⟩ = some (.int .i64 (x1 : Nat)) ∧ W.cell? ⟨b, 1, none⟩ = some (.int .i64 (x2 : Nat)) ∧ W.cell? ⟨b, 2, none⟩ = some (.int .i64 (y1 : Nat)) ∧ W.cell? ⟨b, 3, none⟩ = some (.int .i64 (y2 : Nat)))
            (first | exact HKS.out _ HSD.out | exact HKS.out _ HS1.out | exact HKS.out _ HS2.out)
            (first | (go_at_call 32; (with_reducible refine (HC2.out _ HS1).mono ?_); rintro e w2 ⟨rfl, -, HS2⟩) | (go_at_call 32; (with_reducible refine (HC1.out _ HSD).mono ?_); rintro e w1 ⟨rfl, -, HS1⟩))
          all_goals
            go_wp2
            go_ret
            exact ⟨ret_i64 (by rw [← HR.out, if_neg hk, if_neg (by simp [n0])]), HS2.out.1⟩
        · have q4 : ((y2 : Int) == t2) = false := by simpa using e4
          have KS : ∀ W, (Below b w W ∧ RgB b ⟨⟨(x1 : Nat), (x2 : Nat)⟩, ⟨(y1 : Nat), t2⟩, k⟩ W) → (fun W => W.cell? ⟨b, 0, none⟩ = some (.int .i64 (x1 : Nat)) ∧ W.cell? ⟨b, 1, none⟩ = some (.int .i64 (x2 : Nat)) ∧ W.cell? ⟨b, 2, none⟩ = some (.int .i64 (y1 : Nat)) ∧ W.cell? ⟨b, 3, none⟩ = some (.int .i64 t2)) W := fun W hW => ⟨hW.2.c0, hW.2.c1, hW.2.c2, hW.2.c3⟩
          have HKS := Lib.hid KS
          clear KS c0 c1 c2 c3 c4 l0
          go_region_held3 (fun W => W.cell? ⟨b, 0, none⟩ = some (.int .i64 (x1 : Nat)) ∧ W.cell? ⟨b, 1, none⟩ = some (.int .i64 (x2 : Nat)) ∧ W.cell? ⟨b, 2, none⟩ = some (.int .i64 (y1 : Nat)) ∧ W.cell? ⟨b, 3, none⟩ = some (.int .i64 t2))
            (first | exact HKS.out _ HSD.out | exact HKS.out _ HS1.out | exact HKS.out _ HS2.out)
            (first | (go_at_call 32; (with_reducible refine (HC2.out _ HS1).mono ?_); rintro e w2 ⟨rfl, -, HS2⟩) | (go_at_call 32; (with_reducible refine (HC1.out _ HSD).mono ?_); rintro e w1 ⟨rfl, -, HS1⟩))
          all_goals
            go_wp2
            go_ret
            exact ⟨ret_i64 (by rw [← HR.out, if_neg hk, if_pos (by simp [e4])]), HS2.out.1⟩
      · have q3 : ((y1 : Int) == t1) = false := by simpa using e3
        have KS : ∀ W, (Below b w W ∧ RgB b ⟨⟨(x1 : Nat), (x2 : Nat)⟩, ⟨t1, t2⟩, k⟩ W) → (fun W => W.cell? ⟨b, 0, none⟩ = some (.int .i64 (x1 : Nat)) ∧ W.cell? ⟨b, 1, none⟩ = some (.int .i64 (x2 : Nat)) ∧ W.cell? ⟨b, 2, none⟩ = some (.int .i64 t1) ∧ W.cell? ⟨b, 3, none⟩ = some (.int .i64 t2)) W := fun W hW => ⟨hW.2.c0, hW.2.c1, hW.2.c2, hW.2.c3⟩
        have HKS := Lib.hid KS
        clear KS c0 c1 c2 c3 c4 l0
        go_region_held3 (fun W => W.cell? ⟨b, 0, none⟩ = some (.int .i64 (x1 : Nat)) ∧ W.cell? ⟨b, 1, none⟩ = some (.int .i64 (x2 : Nat)) ∧ W.cell? ⟨b, 2, none⟩ = some (.int .i64 t1) ∧ W.cell? ⟨b, 3, none⟩ = some (.int .i64 t2))
          (first | exact HKS.out _ HSD.out | exact HKS.out _ HS1.out | exact HKS.out _ HS2.out)
          (first | (go_at_call 32; (with_reducible refine (HC2.out _ HS1).mono ?_); rintro e w2 ⟨rfl, -, HS2⟩) | (go_at_call 32; (with_reducible refine (HC1.out _ HSD).mono ?_); rintro e w1 ⟨rfl, -, HS1⟩))
        all_goals
          go_wp2
          go_ret
          exact ⟨ret_i64 (by rw [← HR.out, if_neg hk, if_pos (by simp [e3])]), HS2.out.1⟩
    · have q2 : ((x2 : Int) == f2) = false := by simpa using e2
      refine wp_region_held (S := fun W => Below b w W ∧ RgB b ⟨⟨(x1 : Nat), f2⟩, ⟨t1, t2⟩, k⟩ W) (by kernel_rfl) ?_
      change wpAnyH _ _ _ _ _ _ _ _ (World.drew _)
      have hH : (fun W => Below b w W ∧ RgB b ⟨⟨(x1 : Nat), f2⟩, ⟨t1, t2⟩, k⟩ W) (World.drew wb) := HSD.out
      refine takeH 0 (some 13) (v := ?_) rfl rfl (by kernel_rfl) (by kernel_rfl) (by kernel_rfl) (fun _ _ _ h => h) (Or.inl ⟨by kernel_rfl, ?_⟩) hH ?_
      rotate_left
      · intro w' hSw
        obtain ⟨-, s0, s1, s2, s3, s4, s5⟩ := hSw
        go_simp
        try with_reducible rfl
      (try simp only [Act.put, List.setIfInBounds_toArray, List.set_cons_zero, List.set_cons_succ])
      refine takeH 1 (some 14) (v := ?_) rfl rfl (by kernel_rfl) (by kernel_rfl) (by kernel_rfl) (fun _ _ _ h => h) (Or.inl ⟨by kernel_rfl, ?_⟩) hH ?_
      rotate_left
      · intro w' hSw
        obtain ⟨-, s0, s1, s2, s3, s4, s5⟩ := hSw
        go_simp
        try with_reducible rfl
      (try simp only [Act.put, List.setIfInBounds_toArray, List.set_cons_zero, List.set_cons_succ])
      refine takeH 2 (some 15) (v := ?_) rfl rfl (by kernel_rfl) (by kernel_rfl) (by kernel_rfl) (fun _ _ _ h => h) (Or.inl ⟨by kernel_rfl, ?_⟩) hH ?_
      rotate_left
      · intro w' hSw
        obtain ⟨-, s0, s1, s2, s3, s4, s5⟩ := hSw
        go_simp
        try with_reducible rfl
      (try simp only [Act.put, List.setIfInBounds_toArray, List.set_cons_zero, List.set_cons_succ])
      refine takeH 3 (some 16) (v := ?_) rfl rfl (by kernel_rfl) (by kernel_rfl) (by kernel_rfl) (fun _ _ _ h => h) (Or.inl ⟨by kernel_rfl, ?_⟩) hH ?_
      rotate_left
      · intro w' hSw
        obtain ⟨-, s0, s1, s2, s3, s4, s5⟩ := hSw
        go_simp
        try with_reducible rfl
      (try simp only [Act.put, List.setIfInBounds_toArray, List.set_cons_zero, List.set_cons_succ])
      refine takeH 4 (some 17) (v := ?_) rfl rfl (by kernel_rfl) (by kernel_rfl) (by kernel_rfl) (fun _ _ _ h => h) (Or.inl ⟨by kernel_rfl, ?_⟩) hH ?_
      rotate_left
      · intro w' hSw
        obtain ⟨-, s0, s1, s2, s3, s4, s5⟩ := hSw
        go_simp
        try with_reducible rfl
      (try simp only [Act.put, List.setIfInBounds_toArray, List.set_cons_zero, List.set_cons_succ])
      refine takeH 5 (some 18) (v := ?_) rfl rfl (by kernel_rfl) (by kernel_rfl) (by kernel_rfl) (fun _ _ _ h => h) (Or.inl ⟨by kernel_rfl, ?_⟩) hH ?_
      rotate_left
      · intro w' hSw
        obtain ⟨-, s0, s1, s2, s3, s4, s5⟩ := hSw
        go_simp
        try with_reducible rfl
      (try simp only [Act.put, List.setIfInBounds_toArray, List.set_cons_zero, List.set_cons_succ])
      refine takeH 6 (some 19) (v := ?_) rfl rfl (by kernel_rfl) (by kernel_rfl) (by kernel_rfl) (fun _ _ _ h => h) (Or.inl ⟨by kernel_rfl, ?_⟩) hH ?_
      rotate_left
      · intro w' hSw
        obtain ⟨-, s0, s1, s2, s3, s4, s5⟩ := hSw
        go_simp
        try with_reducible rfl
      (try simp only [Act.put, List.setIfInBounds_toArray, List.set_cons_zero, List.set_cons_succ])
      refine takeH 8 (some 21) (v := ?_) rfl rfl (by kernel_rfl) (by kernel_rfl) (by kernel_rfl) (fun _ _ _ h => h) (Or.inl ⟨by kernel_rfl, ?_⟩) hH ?_
      rotate_left
      · intro w' hSw
        obtain ⟨-, s0, s1, s2, s3, s4, s5⟩ := hSw
        go_simp
        try with_reducible rfl
      (try simp only [Act.put, List.setIfInBounds_toArray, List.set_cons_zero, List.set_cons_succ])
      refine takeH 9 (some 22) (v := ?_) rfl rfl (by kernel_rfl) (by kernel_rfl) (by kernel_rfl) (fun _ _ _ h => h) (Or.inl ⟨by kernel_rfl, ?_⟩) hH ?_
      rotate_left
      · intro w' hSw
        obtain ⟨-, s0, s1, s2, s3, s4, s5⟩ := hSw
        go_simp
        try with_reducible rfl
      (try simp only [Act.put, List.setIfInBounds_toArray, List.set_cons_zero, List.set_cons_succ])
      refine callH 7 (some 20) (f := 32) (args := ?_) rfl rfl (by kernel_rfl) (by kernel_rfl) ?_ ?_
      rotate_left
      · go_simp
        try with_reducible rfl
      refine (HC1.out _ hH).mono ?_
      rintro e w1 ⟨rfl, -, HS1⟩
      have hH1 := HS1.out
      refine ⟨_, rfl, hH1, ?_⟩
      (try simp only [Act.put, List.setIfInBounds_toArray, List.set_cons_zero, List.set_cons_succ])
      refine takeH 10 (some 23) (v := ?_) rfl rfl (by kernel_rfl) (by kernel_rfl) (by kernel_rfl) (fun _ _ _ h => h) (Or.inl ⟨by kernel_rfl, ?_⟩) hH1 ?_
      rotate_left
      · intro w' hSw
        obtain ⟨-, s0, s1, s2, s3, s4, s5⟩ := hSw
        go_simp
        try with_reducible rfl
      (try simp only [Act.put, List.setIfInBounds_toArray, List.set_cons_zero, List.set_cons_succ])
      refine takeH 11 (some 24) (v := ?_) rfl rfl (by kernel_rfl) (by kernel_rfl) (by kernel_rfl) (fun _ _ _ h => h) (Or.inl ⟨by kernel_rfl, ?_⟩) hH1 ?_
      rotate_left
      · intro w' hSw
        obtain ⟨-, s0, s1, s2, s3, s4, s5⟩ := hSw
        go_simp
        try with_reducible rfl
      (try simp only [Act.put, List.setIfInBounds_toArray, List.set_cons_zero, List.set_cons_succ])
      refine takeH 12 (some 25) (v := ?_) rfl rfl (by kernel_rfl) (by kernel_rfl) (by kernel_rfl) (fun _ _ _ h => h) (Or.inl ⟨by kernel_rfl, ?_⟩) hH1 ?_
      rotate_left
      · intro w' hSw
        obtain ⟨-, s0, s1, s2, s3, s4, s5⟩ := hSw
        go_simp
        try with_reducible rfl
      (try simp only [Act.put, List.setIfInBounds_toArray, List.set_cons_zero, List.set_cons_succ])
      refine takeH 13 (some 26) (v := undef) rfl rfl (by kernel_rfl) (by kernel_rfl) (by kernel_rfl) (fun _ _ _ h => h) (Or.inr ⟨by kernel_rfl, rfl⟩) hH1 ?_
      (try simp only [Act.put, List.setIfInBounds_toArray, List.set_cons_zero, List.set_cons_succ])
      refine takeH 14 (some 27) (v := undef) rfl rfl (by kernel_rfl) (by kernel_rfl) (by kernel_rfl) (fun _ _ _ h => h) (Or.inr ⟨by kernel_rfl, rfl⟩) hH1 ?_
      (try simp only [Act.put, List.setIfInBounds_toArray, List.set_cons_zero, List.set_cons_succ])
      refine takeH 15 (some 28) (v := undef) rfl rfl (by kernel_rfl) (by kernel_rfl) (by kernel_rfl) (fun _ _ _ h => h) (Or.inr ⟨by kernel_rfl, rfl⟩) hH1 ?_
      (try simp only [Act.put, List.setIfInBounds_toArray, List.set_cons_zero, List.set_cons_succ])
      refine takeH 16 (some 29) (v := undef) rfl rfl (by kernel_rfl) (by kernel_rfl) (by kernel_rfl) (fun _ _ _ h => h) (Or.inr ⟨by kernel_rfl, rfl⟩) hH1 ?_
      (try simp only [Act.put, List.setIfInBounds_toArray, List.set_cons_zero, List.set_cons_succ])
      refine takeH 17 (some 30) (v := undef) rfl rfl (by kernel_rfl) (by kernel_rfl) (by kernel_rfl) (fun _ _ _ h => h) (Or.inr ⟨by kernel_rfl, rfl⟩) hH1 ?_
      (try simp only [Act.put, List.setIfInBounds_toArray, List.set_cons_zero, List.set_cons_succ])
      refine takeH 18 (some 31) (v := undef) rfl rfl (by kernel_rfl) (by kernel_rfl) (by kernel_rfl) (fun _ _ _ h => h) (Or.inr ⟨by kernel_rfl, rfl⟩) hH1 ?_
      (try simp only [Act.put, List.setIfInBounds_toArray, List.set_cons_zero, List.set_cons_succ])
      refine takeH 19 (some 32) (v := undef) rfl rfl (by kernel_rfl) (by kernel_rfl) (by kernel_rfl) (fun _ _ _ h => h) (Or.inr ⟨by kernel_rfl, rfl⟩) hH1 ?_
      (try simp only [Act.put, List.setIfInBounds_toArray, List.set_cons_zero, List.set_cons_succ])
      refine takeH 20 (some 33) (v := ?_) rfl rfl (by kernel_rfl) (by kernel_rfl) (by kernel_rfl) (fun _ _ _ h => h) (Or.inl ⟨by kernel_rfl, ?_⟩) hH1 ?_
      rotate_left
      · intro w' hSw
        obtain ⟨-, s0, s1, s2, s3, s4, s5⟩ := hSw
        go_simp
        try with_reducible rfl
      (try simp only [Act.put, List.setIfInBounds_toArray, List.set_cons_zero, List.set_cons_succ])
      refine wpAnyH_done (by kernel_rfl) ?_ _
      go_wp2
      go_ret
      exact ⟨ret_i64 (by rw [← HR.out, if_neg hk, if_pos (by simp [e2])]), HS1.out.1⟩
  · have q1 : ((x1 : Int) == f1) = false := by simpa using e1
    refine wp_region_held (S := fun W => Below b w W ∧ RgB b ⟨⟨f1, f2⟩, ⟨t1, t2⟩, k⟩ W) (by kernel_rfl) ?_
    change wpAnyH _ _ _ _ _ _ _ _ (World.drew _)
    have hH : (fun W => Below b w W ∧ RgB b ⟨⟨f1, f2⟩, ⟨t1, t2⟩, k⟩ W) (World.drew wb) := HSD.out
    refine takeH 0 (some 13) (v := ?_) rfl rfl (by kernel_rfl) (by kernel_rfl) (by kernel_rfl) (fun _ _ _ h => h) (Or.inl ⟨by kernel_rfl, ?_⟩) hH ?_
    rotate_left
    · intro w' hSw
      obtain ⟨-, s0, s1, s2, s3, s4, s5⟩ := hSw
      go_simp
      try with_reducible rfl
    (try simp only [Act.put, List.setIfInBounds_toArray, List.set_cons_zero, List.set_cons_succ])
    refine takeH 1 (some 14) (v := ?_) rfl rfl (by kernel_rfl) (by kernel_rfl) (by kernel_rfl) (fun _ _ _ h => h) (Or.inl ⟨by kernel_rfl, ?_⟩) hH ?_
    rotate_left
    · intro w' hSw
      obtain ⟨-, s0, s1, s2, s3, s4, s5⟩ := hSw
      go_simp
      try with_reducible rfl
    (try simp only [Act.put, List.setIfInBounds_toArray, List.set_cons_zero, List.set_cons_succ])
    refine takeH 2 (some 15) (v := ?_) rfl rfl (by kernel_rfl) (by kernel_rfl) (by kernel_rfl) (fun _ _ _ h => h) (Or.inl ⟨by kernel_rfl, ?_⟩) hH ?_
    rotate_left
    · intro w' hSw
      obtain ⟨-, s0, s1, s2, s3, s4, s5⟩ := hSw
      go_simp
      try with_reducible rfl
    (try simp only [Act.put, List.setIfInBounds_toArray, List.set_cons_zero, List.set_cons_succ])
    refine takeH 3 (some 16) (v := ?_) rfl rfl (by kernel_rfl) (by kernel_rfl) (by kernel_rfl) (fun _ _ _ h => h) (Or.inl ⟨by kernel_rfl, ?_⟩) hH ?_
    rotate_left
    · intro w' hSw
      obtain ⟨-, s0, s1, s2, s3, s4, s5⟩ := hSw
      go_simp
      try with_reducible rfl
    (try simp only [Act.put, List.setIfInBounds_toArray, List.set_cons_zero, List.set_cons_succ])
    refine takeH 4 (some 17) (v := ?_) rfl rfl (by kernel_rfl) (by kernel_rfl) (by kernel_rfl) (fun _ _ _ h => h) (Or.inl ⟨by kernel_rfl, ?_⟩) hH ?_
    rotate_left
    · intro w' hSw
      obtain ⟨-, s0, s1, s2, s3, s4, s5⟩ := hSw
      go_simp
      try with_reducible rfl
    (try simp only [Act.put, List.setIfInBounds_toArray, List.set_cons_zero, List.set_cons_succ])
    refine takeH 5 (some 18) (v := ?_) rfl rfl (by kernel_rfl) (by kernel_rfl) (by kernel_rfl) (fun _ _ _ h => h) (Or.inl ⟨by kernel_rfl, ?_⟩) hH ?_
    rotate_left
    · intro w' hSw
      obtain ⟨-, s0, s1, s2, s3, s4, s5⟩ := hSw
      go_simp
      try with_reducible rfl
    (try simp only [Act.put, List.setIfInBounds_toArray, List.set_cons_zero, List.set_cons_succ])
    refine takeH 6 (some 19) (v := ?_) rfl rfl (by kernel_rfl) (by kernel_rfl) (by kernel_rfl) (fun _ _ _ h => h) (Or.inl ⟨by kernel_rfl, ?_⟩) hH ?_
    rotate_left
    · intro w' hSw
      obtain ⟨-, s0, s1, s2, s3, s4, s5⟩ := hSw
      go_simp
      try with_reducible rfl
    (try simp only [Act.put, List.setIfInBounds_toArray, List.set_cons_zero, List.set_cons_succ])
    refine takeH 8 (some 21) (v := ?_) rfl rfl (by kernel_rfl) (by kernel_rfl) (by kernel_rfl) (fun _ _ _ h => h) (Or.inl ⟨by kernel_rfl, ?_⟩) hH ?_
    rotate_left
    · intro w' hSw
      obtain ⟨-, s0, s1, s2, s3, s4, s5⟩ := hSw
      go_simp
      try with_reducible rfl
    (try simp only [Act.put, List.setIfInBounds_toArray, List.set_cons_zero, List.set_cons_succ])
    refine takeH 9 (some 22) (v := ?_) rfl rfl (by kernel_rfl) (by kernel_rfl) (by kernel_rfl) (fun _ _ _ h => h) (Or.inl ⟨by kernel_rfl, ?_⟩) hH ?_
    rotate_left
    · intro w' hSw
      obtain ⟨-, s0, s1, s2, s3, s4, s5⟩ := hSw
      go_simp
      try with_reducible rfl
    (try simp only [Act.put, List.setIfInBounds_toArray, List.set_cons_zero, List.set_cons_succ])
    refine callH 7 (some 20) (f := 32) (args := ?_) rfl rfl (by kernel_rfl) (by kernel_rfl) ?_ ?_
    rotate_left
    · go_simp
      try with_reducible rfl
    refine (HC1.out _ hH).mono ?_
    rintro e w1 ⟨rfl, -, HS1⟩
    have hH1 := HS1.out
    refine ⟨_, rfl, hH1, ?_⟩
    (try simp only [Act.put, List.setIfInBounds_toArray, List.set_cons_zero, List.set_cons_succ])
    refine takeH 10 (some 23) (v := ?_) rfl rfl (by kernel_rfl) (by kernel_rfl) (by kernel_rfl) (fun _ _ _ h => h) (Or.inl ⟨by kernel_rfl, ?_⟩) hH1 ?_
    rotate_left
    · intro w' hSw
      obtain ⟨-, s0, s1, s2, s3, s4, s5⟩ := hSw
      go_simp
      try with_reducible rfl
    (try simp only [Act.put, List.setIfInBounds_toArray, List.set_cons_zero, List.set_cons_succ])
    refine takeH 11 (some 24) (v := ?_) rfl rfl (by kernel_rfl) (by kernel_rfl) (by kernel_rfl) (fun _ _ _ h => h) (Or.inl ⟨by kernel_rfl, ?_⟩) hH1 ?_
    rotate_left
    · intro w' hSw
      obtain ⟨-, s0, s1, s2, s3, s4, s5⟩ := hSw
      go_simp
      try with_reducible rfl
    (try simp only [Act.put, List.setIfInBounds_toArray, List.set_cons_zero, List.set_cons_succ])
    refine takeH 12 (some 25) (v := ?_) rfl rfl (by kernel_rfl) (by kernel_rfl) (by kernel_rfl) (fun _ _ _ h => h) (Or.inl ⟨by kernel_rfl, ?_⟩) hH1 ?_
    rotate_left
    · intro w' hSw
      obtain ⟨-, s0, s1, s2, s3, s4, s5⟩ := hSw
      go_simp
      try with_reducible rfl
    (try simp only [Act.put, List.setIfInBounds_toArray, List.set_cons_zero, List.set_cons_succ])
    refine takeH 13 (some 26) (v := undef) rfl rfl (by kernel_rfl) (by kernel_rfl) (by kernel_rfl) (fun _ _ _ h => h) (Or.inr ⟨by kernel_rfl, rfl⟩) hH1 ?_
    (try simp only [Act.put, List.setIfInBounds_toArray, List.set_cons_zero, List.set_cons_succ])
    refine takeH 14 (some 27) (v := undef) rfl rfl (by kernel_rfl) (by kernel_rfl) (by kernel_rfl) (fun _ _ _ h => h) (Or.inr ⟨by kernel_rfl, rfl⟩) hH1 ?_
    (try simp only [Act.put, List.setIfInBounds_toArray, List.set_cons_zero, List.set_cons_succ])
    refine takeH 15 (some 28) (v := undef) rfl rfl (by kernel_rfl) (by kernel_rfl) (by kernel_rfl) (fun _ _ _ h => h) (Or.inr ⟨by kernel_rfl, rfl⟩) hH1 ?_
    (try simp only [Act.put, List.setIfInBounds_toArray, List.set_cons_zero, List.set_cons_succ])
    refine takeH 16 (some 29) (v := undef) rfl rfl (by kernel_rfl) (by kernel_rfl) (by kernel_rfl) (fun _ _ _ h => h) (Or.inr ⟨by kernel_rfl, rfl⟩) hH1 ?_
    (try simp only [Act.put, List.setIfInBounds_toArray, List.set_cons_zero, List.set_cons_succ])
    refine takeH 17 (some 30) (v := undef) rfl rfl (by kernel_rfl) (by kernel_rfl) (by kernel_rfl) (fun _ _ _ h => h) (Or.inr ⟨by kernel_rfl, rfl⟩) hH1 ?_
    (try simp only [Act.put, List.setIfInBounds_toArray, List.set_cons_zero, List.set_cons_succ])
    refine takeH 18 (some 31) (v := undef) rfl rfl (by kernel_rfl) (by kernel_rfl) (by kernel_rfl) (fun _ _ _ h => h) (Or.inr ⟨by kernel_rfl, rfl⟩) hH1 ?_
    (try simp only [Act.put, List.setIfInBounds_toArray, List.set_cons_zero, List.set_cons_succ])
    refine takeH 19 (some 32) (v := undef) rfl rfl (by kernel_rfl) (by kernel_rfl) (by kernel_rfl) (fun _ _ _ h => h) (Or.inr ⟨by kernel_rfl, rfl⟩) hH1 ?_
    (try simp only [Act.put, List.setIfInBounds_toArray, List.set_cons_zero, List.set_cons_succ])
    refine takeH 20 (some 33) (v := ?_) rfl rfl (by kernel_rfl) (by kernel_rfl) (by kernel_rfl) (fun _ _ _ h => h) (Or.inl ⟨by kernel_rfl, ?_⟩) hH1 ?_
    rotate_left
    · intro w' hSw
      obtain ⟨-, s0, s1, s2, s3, s4, s5⟩ := hSw
      go_simp
      try with_reducible rfl
    (try simp only [Act.put, List.setIfInBounds_toArray, List.set_cons_zero, List.set_cons_succ])
    refine wpAnyH_done (by kernel_rfl) ?_ _
    go_wp2
    go_ret
    exact ⟨ret_i64 (by rw [← HR.out, if_neg hk, if_pos (by simp [e1])]), HS1.out.1⟩
end Go.Proofs.Ytfldjoiohejilaa.U
